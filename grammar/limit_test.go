package grammar_test

import (
	"math/rand"
	"slices"
	"strings"
	"testing"

	"triglyph/api"
	"triglyph/arr"
	"triglyph/grammar"
)

// many is a word as often as is asked for, and other words behind; each at its number.
func many(text string, times int, behind string) []api.Token {
	pieces, last := wordsOf(text), wordsOf(behind)
	out := make([]api.Token, 0, len(pieces)*times+len(last))
	for range times {
		out = append(out, pieces...)
	}
	out = append(out, last...)
	for i := range out {
		out[i].At = i
	}
	return out
}

// TestGreat: P1, words beyond what a text can have, and beyond what could be gone through again and again.
func TestGreat(t *testing.T) {
	t.Parallel()
	const times = 1 << 16
	closed := func(open, within, close string) []api.Token {
		return many(open, times, within+strings.Repeat(" "+close, times)+" a")
	}
	for _, c := range []struct {
		what  string
		words []api.Token
		want  api.Fault
	}{
		{"( alone", many("(", times, ""), api.Fault{Err: api.ErrDeep, At: 24}},
		{"( and an operand", many("(", times, "a"), api.Fault{Err: api.ErrDeep, At: 24}},
		{"( closed", closed("(", "a", ")"), api.Fault{Err: api.ErrDeep, At: 24}},
		{"a function in (", closed("(", "+", ")"), api.Fault{Err: api.ErrDeep, At: 23}},
		{"a function in ( that is not closed", many("(", times, "+"), api.Fault{Err: api.ErrDeep, At: 24}},
		{"trains", closed("( +", "+", ")"), api.Fault{Err: api.ErrDeep, At: 45}},
		{"{ alone", many("{", times, ""), api.Fault{Err: api.ErrSyntax, At: 0}},
		{"{ closed", closed("{", "a", "} a"), api.Fault{Err: api.ErrDeep, At: 12}},
		{"( {", many("( {", times, ""), api.Fault{Err: api.ErrSyntax, At: 1}},
		{"( { closed", closed("( {", "a", "} )"), api.Fault{Err: api.ErrDeep, At: 16}},
		{"[", many("a [", times, ""), api.Fault{Err: api.ErrDeep, At: 48}},
		{") alone", many(")", times, ""), api.Fault{Err: api.ErrSyntax, At: 0}},
		{"functions", many("+", times, "a"), api.Fault{Err: api.ErrDeep, At: 23}},
		{"Outer", many("∘.", times, "+ a"), api.Fault{Err: api.ErrSyntax, At: 0}},
		{"operands", many("a", times, ""), api.Fault{Err: api.ErrSyntax, At: 1}},
		{"Behind", many("a /", times, "a"), api.Fault{Err: api.ErrDeep, At: 47}},
		{"Power", many("⍣", times, "a"), api.Fault{Err: api.ErrSyntax, At: 0}},
		{"texts side by side", many("{ a }", times, "a"), api.Fault{Err: api.ErrDeep, At: 22*3 + 1}},
	} {
		if n, f := grammar.Parse(fullGrammar(), c.words, -7); f != c.want || !isZero(n) {
			t.Errorf("%s: %v; want %v", c.what, f, c.want)
		}
	}
	for what, words := range map[string][]api.Token{
		"adverbs":                many("+", 1, strings.Repeat("/ ", times)+"a"),
		"adverbs behind Behind":  many("a", 1, strings.Repeat("/ ", times)+"a"),
		"brackets":               many("a", 1, strings.Repeat("[ a ] ", times)),
		"functions in brackets":  many("a", 1, strings.Repeat("[ ( + ) a ] ", times)),
		"texts in brackets":      many("a", 1, strings.Repeat("[ { ⍺ } a ] ", times)),
		"brackets in a text":     many("{", 1, "⍺ "+strings.Repeat("[ ⍺ ] ", times)+"} a"),
		"expressions in a train": many("a", 1, strings.Repeat("[ ( + - + ) ( - a ) ] ", times)),
	} {
		if n, f := grammar.Parse(fullGrammar(), words, 0); f != (api.Fault{}) || isZero(n) {
			t.Errorf("%s: %v", what, f)
		}
	}
}

// anyWord is any word at all.
func anyWord(r *rand.Rand) api.Token {
	texts := strings.Fields("a ⍺ ⍵ x + - / ⌿ ⍨ ∘. ⍣ ( { [ ) } ] ← ⋄ \xff")
	lits := []api.Arr{{}, arr.Atom(3), arr.Nums(nil), arr.Nums([]int64{3}), arr.Text([]int64{97}), {Shape: []int{-1}}, {Shape: []int{3}}, {Cells: make([]api.Cell, 3)}, {Cells: []api.Cell{{Kind: api.CBox, N: 3, Box: []api.Arr{{}}}}}, {Cells: []api.Cell{{Kind: 9, N: 3}}}}
	out := api.Token{Kind: r.Intn(11) - 2, Lit: lits[r.Intn(len(lits))], At: r.Intn(200) - 100}
	if r.Intn(5) > 0 {
		out.Text = texts[r.Intn(len(texts))]
	}
	return out
}

// anyGrammar is any grammar at all: words may stand for one another.
func anyGrammar(r *rand.Rand) api.Grammar {
	one := func() string { return anyWord(r).Text }
	list := func() []string {
		var out []string
		for range r.Intn(5) {
			out = append(out, one())
		}
		return out
	}
	return api.Grammar{
		Verbs: list(), Adverbs: list(), Behind: list(),
		Outer: one(), Power: one(), Open: one(), Close: one(), Left: one(), Right: one(), Minus: one(), Quote: one(),
		Trains: r.Intn(2) == 0, Lone: r.Intn(2) == 0, Square: r.Intn(2) == 0,
	}
}

// TestAnything: P1, whatever the words and the grammar are, there is an answer, with a place that is a word's or the end's, and without a node beside a fault.
func TestAnything(t *testing.T) {
	t.Parallel()
	r := rand.New(rand.NewSource(154))
	for range 50000 {
		var words []api.Token
		for range r.Intn(12) {
			words = append(words, anyWord(r))
		}
		g := anyGrammar(r)
		n, f := grammar.Parse(g, words, 500)
		isWord := slices.ContainsFunc(words, func(w api.Token) bool { return w.At == f.At })
		switch {
		case f == (api.Fault{}):
			if isZero(n) {
				t.Fatalf("%v: no node", words)
			}
		case !isZero(n), f.Why != 0, f.Err != api.ErrSyntax, !isWord && f.At != 500:
			t.Fatalf("%v, %+v: %v, %v", words, g, n, f)
		}
		if m, e := grammar.Parse(g, words, 500); said(m, e) != said(n, f) {
			t.Fatalf("%v: %v, and then %v", words, f, e)
		}
	}
}

// pieces are what nests by chance are made of, and what closes each.
func pieces() [][2]string {
	return [][2]string{{"(", ")"}, {"(", ") + a"}, {"-", ""}, {"a +", ""}, {"{ -", "} a"}, {"a {", "} a"}, {"a [", "]"}, {"( -", ")"}, {"( a", ")"}, {"( + - (", ") ) a"}, {"( + {", "} ) a"}, {"∘. {", "} a"}, {"a ( / {", "} ) a"}}
}

// TestChanceDeep: ErrDeep, nests by chance about MaxNest deep, against the chapter said another way.
func TestChanceDeep(t *testing.T) {
	t.Parallel()
	r := rand.New(rand.NewSource(156))
	all := pieces()
	deep, ok := 0, 0
	for range 20000 {
		some := all[:1+r.Intn(len(all))]
		ahead, behind := "", ""
		for range r.Intn(28) {
			p := some[r.Intn(len(some))]
			ahead, behind = ahead+p[0]+" ", p[1]+" "+behind
		}
		words := many("", 0, ahead+[]string{"a", "- a", "a - a", "{ a } a", "( - ) a", "a [ a ]", "⍺", "-", ""}[r.Intn(9)]+" "+behind)
		g := fullGrammar()
		g.Lone, g.Trains = r.Intn(2) == 0, r.Intn(4) > 0
		switch out := hold(t, g, words, 5000); {
		case strings.HasPrefix(out, "deep"):
			deep++
		case !strings.HasPrefix(out, "syntax"):
			ok++
		}
	}
	if deep < 1000 || ok < 1000 {
		t.Errorf("%d too deep, %d read", deep, ok)
	}
}

// FuzzParse: P1 and 15.1 to 15.4, words by the numbers of bytes, of each grammar.
func FuzzParse(f *testing.F) {
	all, grammars := append(rightWords(), strangeWords()...), someGrammars()
	for i := range grammars {
		f.Add(byte(i), []byte{4, 7, 4})
		f.Add(byte(i), []byte{16, 5, 7, 6, 20, 9, 0})
	}
	f.Fuzz(func(t *testing.T, which byte, numbers []byte) {
		if len(numbers) > 40 {
			return
		}
		var words []api.Token
		for i, n := range numbers {
			w := all[int(n)%len(all)]
			w.At = 2*i + 1
			words = append(words, w)
		}
		hold(t, grammars[int(which)%len(grammars)], words, 999)
	})
}
