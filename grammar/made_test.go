package grammar_test

import (
	"fmt"
	"math/rand"
	"slices"
	"testing"

	"triglyph/api"
	"triglyph/core"
	"triglyph/grammar"
)

// maker makes programs by chance, and the words that say them: so what Parse must answer is known without reading.
type maker struct {
	*rand.Rand
	g     api.Grammar
	words []api.Token
	at    int
	size  int // how much may still come
}

// uses is which arguments a text has named so far; nil stands for no text.
type uses struct {
	left, right bool
}

// put lays a word, and tells where.
func (m *maker) put(w api.Token) int {
	m.at += 1 + m.Intn(3)
	w.At = m.at
	m.words = append(m.words, w)
	return m.at
}

func (m *maker) sign(text string) int  { return m.put(api.Token{Kind: api.TSign, Text: text}) }
func (m *maker) open(text string) int  { return m.put(api.Token{Kind: api.TOpen, Text: text}) }
func (m *maker) close(text string) int { return m.put(api.Token{Kind: api.TClose, Text: text}) }

// goesOn tells, by chance, whether something more may come at a depth.
func (m *maker) goesOn(deep, chances int) bool {
	m.size--
	return m.size > 0 && deep < api.MaxNest && m.Intn(10) < chances
}

// next is where the next word begins, known once it is laid.
func (m *maker) next() func() int {
	many := len(m.words)
	return func() int { return m.words[many].At }
}

// expression makes one that lies at a depth.
func (m *maker) expression(deep int, use *uses) found {
	if m.goesOn(deep, 3) {
		f := m.function(deep+1, false, false)
		return find("mo", f.at, f, m.expression(deep+1, use))
	}
	begin := m.next()
	x := m.operand(deep, use)
	if !m.goesOn(deep, 5) {
		return x
	}
	f := m.function(deep+1, true, false)
	if m.g.Lone && x.isLit && f.says == "adv/" && f.parts[0].says == "lam1" {
		f.says = "pow" + m.number(x.at)
		return find("mo", f.at, f, m.expression(deep+1, use))
	}
	y := m.expression(deep+1, use)
	return find("dy", begin(), f, x, y)
}

// number makes the literal that was laid at a place say how often.
func (m *maker) number(at int) string {
	i := slices.IndexFunc(m.words, func(w api.Token) bool { return w.At == at })
	m.words[i] = numberWord(m.often(), at)
	return sayLit(m.words[i].Lit)
}

func (m *maker) often() int64 { return []int64{0, 1, 2, 7, 4095, 4096}[m.Intn(6)] }

// operand makes one in an expression that lies at a depth.
func (m *maker) operand(deep int, use *uses) found {
	begin := m.next()
	var out found
	if m.goesOn(deep, 3) {
		m.open("(")
		out = m.expression(deep+1, use)
		m.close(")")
	} else {
		out = m.word(use)
	}
	for m.g.Square && m.goesOn(deep, 2) {
		m.open("[")
		which := m.expression(deep+1, use)
		m.close("]")
		out = find("index", begin(), out, which)
	}
	return out
}

// word makes an operand of one word.
func (m *maker) word(use *uses) found {
	if use != nil && m.Intn(2) == 0 {
		if m.Intn(2) == 0 {
			use.left = true
			return find("L", m.put(api.Token{Kind: api.TName, Text: m.g.Left}))
		}
		use.right = true
		return find("R", m.put(api.Token{Kind: api.TName, Text: m.g.Right}))
	}
	if m.Intn(2) == 0 {
		name := []string{"a", "w", "c97", "abcdefgh"}[m.Intn(4)]
		return find(name, m.put(api.Token{Kind: api.TName, Text: name}))
	}
	w := []api.Token{numberWord(5, 0), numberWord(-5, 0), listWord(0, 1, 2, 3), listWord(0), textWord(0, 97), textWord(0, 97, 98), textWord(0)}[m.Intn(7)]
	return found{says: sayLit(w.Lit), at: m.put(w), isLit: true}
}

// function makes one that lies at a depth, behind an operand or not; right behind a function a sign that may stand behind one would be taken for that.
func (m *maker) function(deep int, behind, rightBehind bool) found {
	begin := m.next()
	var out found
	if m.g.Outer != "" && m.Intn(8) == 0 {
		m.sign(m.g.Outer)
		out = m.stem(deep, false, false)
		out = find("outer", begin(), out)
	} else {
		out = m.stem(deep, behind, rightBehind)
	}
	for m.Intn(3) == 0 {
		if m.g.Power != "" && m.Intn(3) == 0 {
			m.sign(m.g.Power)
			w := numberWord(m.often(), 0)
			m.put(w)
			out = find("pow"+sayLit(w.Lit), begin(), out)
		} else {
			sign := m.g.Adverbs[m.Intn(len(m.g.Adverbs))]
			m.sign(sign)
			out = find("adv"+sign, begin(), out)
		}
	}
	return out
}

// stem makes a function without what stands about it.
func (m *maker) stem(deep int, behind, rightBehind bool) found {
	if m.goesOn(deep, 3) {
		return m.text(deep)
	}
	if m.goesOn(deep, 3) {
		return m.brackets(deep, behind)
	}
	from := m.g.Verbs
	if behind && !rightBehind && len(m.g.Behind) > 0 && m.Intn(3) == 0 {
		from = m.g.Behind
	}
	sign := from[m.Intn(len(from))]
	return find(sign, m.sign(sign))
}

// brackets makes functions alone in them.
func (m *maker) brackets(deep int, behind bool) found {
	most := 1
	if m.g.Trains {
		most = 3
	}
	at := m.open("(")
	var parts []found
	for range 1 + m.Intn(most) {
		parts = append(parts, m.function(deep+1, behind, len(parts) > 0))
	}
	m.close(")")
	if len(parts) == 1 {
		return parts[0]
	}
	return find([]string{"hook", "fork"}[len(parts)-2], at, parts...)
}

// text makes a function's text; what it names alone is made to be what may be named alone.
func (m *maker) text(deep int) found {
	at := m.open(m.g.Open)
	many, use := len(m.words), &uses{}
	x := m.expression(deep+1, use)
	says := "lam1"
	switch {
	case use.left && use.right:
		says = "lam2"
	case use.left, use.right:
		m.rename(many)
		x = asRight(x)
	}
	m.close(m.g.Close)
	return find(says, at, x)
}

// rename gives the arguments of a text that begins at a word the name that may stand alone; those of texts within are named already.
func (m *maker) rename(from int) {
	alone, within := m.g.Right, 0
	if m.g.Lone {
		alone = m.g.Left
	}
	for i := from; i < len(m.words); i++ {
		switch w := &m.words[i]; {
		case w.Kind == api.TOpen && w.Text == m.g.Open:
			within++
		case w.Kind == api.TClose && w.Text == m.g.Close:
			within--
		case within == 0 && w.Kind == api.TName && (w.Text == m.g.Left || w.Text == m.g.Right):
			w.Text = alone
		}
	}
}

// asRight is an expression in which all arguments but those of texts within are the right one.
func asRight(f found) found {
	if f.says == "L" && len(f.parts) == 0 {
		f.says = "R"
	}
	if f.says != "lam1" && f.says != "lam2" {
		for i, part := range f.parts {
			f.parts[i] = asRight(part)
		}
	}
	return f
}

// made is a program by chance, with its words.
func made(r *rand.Rand, g api.Grammar, size int) (found, []api.Token) {
	m := &maker{Rand: r, g: g, size: size}
	out := m.expression(1, nil)
	return out, m.words
}

// wholeGrammars are those of which all words but a few have a text.
func wholeGrammars() []api.Grammar {
	out := []api.Grammar{jGrammar(), kGrammar()}
	for _, g := range someGrammars() {
		if g.Open != "" && g.Close != "" && g.Left != "" && g.Right != "" && len(g.Adverbs) > 2 && len(g.Verbs) > 2 && g.Left != "b" {
			out = append(out, g)
		}
	}
	return out
}

// TestMade: 15.1 to 15.4, the words of programs by chance are these programs.
func TestMade(t *testing.T) {
	t.Parallel()
	r := rand.New(rand.NewSource(151))
	seen := map[string]int{}
	for _, g := range wholeGrammars() {
		for range 4000 {
			want, words := made(r, g, r.Intn(60))
			n, f := grammar.Parse(g, words, 0)
			if got := said(n, f); got != want.String() {
				t.Fatalf("%s: %s; want %s", sayWords(words), got, want)
			}
			count(n, seen)
		}
	}
	for kind, k := range tellings {
		if seen[fmt.Sprint(kind)] < 500 {
			t.Errorf("kind %d (%s): %d times", kind, k.word, seen[fmt.Sprint(kind)])
		}
	}
}

// count counts nodes by their kinds.
func count(n api.Node, seen map[string]int) {
	seen[fmt.Sprint(n.Kind)]++
	for _, part := range n.Kids {
		count(part, seen)
	}
}

// TestBroken: 15.1 to 15.4, the same with some words changed, against the chapter said another way.
func TestBroken(t *testing.T) {
	t.Parallel()
	r := rand.New(rand.NewSource(152))
	grammars := wholeGrammars()
	others := append(rightWords(), strangeWords()...)
	seen := map[string]int{}
	for range 100000 {
		g := grammars[r.Intn(len(grammars))]
		_, words := made(r, g, r.Intn(40))
		for range 1 + r.Intn(2) {
			words = broken(r, words, others)
		}
		switch out := hold(t, g, words, 1+r.Intn(999)); {
		case len(out) > 6 && out[:6] == "syntax":
			seen["syntax"]++
		default:
			seen["read"]++
		}
	}
	if seen["syntax"] < 10000 || seen["read"] < 10000 {
		t.Errorf("%v", seen)
	}
}

// broken is words with one left out, exchanged, laid twice or changed, or with all behind one left out.
func broken(r *rand.Rand, words, others []api.Token) []api.Token {
	if len(words) == 0 {
		return words
	}
	out := slices.Clone(words)
	i, j := r.Intn(len(words)), r.Intn(len(words))
	other := others[r.Intn(len(others))]
	other.At = 1000 + r.Intn(1000)
	switch r.Intn(6) {
	case 0:
		return slices.Delete(out, i, i+1)
	case 1:
		out[i], out[j] = out[j], out[i]
		return out
	case 2:
		return slices.Insert(out, j, words[i])
	case 3:
		out[i] = other
		return out
	case 4:
		return slices.Insert(out, i, other)
	}
	return out[:i]
}

// moved is a program that begins so many places further on.
func moved(f found, by int) found {
	f.at += by
	f.parts = slices.Clone(f.parts)
	for i, part := range f.parts {
		f.parts[i] = moved(part, by)
	}
	return f
}

// TestFollows: 15.5, a program in brackets is the same, and there are at most three nodes a word. P7: read twice it is the same.
func TestFollows(t *testing.T) {
	t.Parallel()
	r := rand.New(rand.NewSource(155))
	grammars := wholeGrammars()
	for range 30000 {
		g := grammars[r.Intn(len(grammars))]
		want, words := made(r, g, r.Intn(60))
		n, f := grammar.Parse(g, words, 0)
		if f != (api.Fault{}) || core.Size(n) > 3*len(words) {
			t.Fatalf("%s: %d nodes of %d words, %v", sayWords(words), core.Size(n), len(words), f)
		}
		if again, _ := grammar.Parse(g, words, 77); sayNode(again) != sayNode(n) {
			t.Fatalf("%s: %s, and then %s", sayWords(words), sayNode(n), sayNode(again))
		}
		bracketed := []api.Token{{Kind: api.TOpen, Text: "(", At: 0}}
		for _, w := range words {
			w.At += 10
			bracketed = append(bracketed, w)
		}
		bracketed = append(bracketed, api.Token{Kind: api.TClose, Text: ")", At: 9999})
		in, f := grammar.Parse(g, bracketed, 0)
		if f.Err == api.ErrDeep {
			continue
		}
		if got := said(in, f); got != moved(want, 10).String() || !core.Same(in, n) {
			t.Fatalf("%s in brackets: %s; want %s", sayWords(words), got, want)
		}
	}
}
