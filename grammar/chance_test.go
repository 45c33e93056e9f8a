package grammar_test

import (
	"fmt"
	"math/rand"
	"strings"
	"testing"

	"triglyph/api"
	"triglyph/grammar"
)

// someGrammars are APL's with each choice of Trains, Lone and Square, whole and without some of its words.
func someGrammars() []api.Grammar {
	var out []api.Grammar
	for bits := range 8 {
		g := aplGrammar()
		g.Trains, g.Lone, g.Square = bits&1 > 0, bits&2 > 0, bits&4 > 0
		out = append(out, g)
		bare := g
		bare.Behind, bare.Outer, bare.Power = nil, "", ""
		out = append(out, bare)
	}
	for _, without := range []func(g *api.Grammar){
		func(g *api.Grammar) { g.Adverbs = nil },
		func(g *api.Grammar) { g.Verbs = []string{"", "-"} },
		func(g *api.Grammar) { g.Open = "" },
		func(g *api.Grammar) { g.Close = "" },
		func(g *api.Grammar) { g.Left = "" },
		func(g *api.Grammar) { g.Right = "" },
		func(g *api.Grammar) { g.Left, g.Right = "b", "a" },
		func(g *api.Grammar) { g.Adverbs, g.Behind = []string{"⍨", ""}, []string{"/", "⍨", "+"} },
		func(g *api.Grammar) { *g = api.Grammar{} },
	} {
		g := fullGrammar()
		without(&g)
		out = append(out, g)
	}
	return out
}

// hold holds Parse against the chapter said another way.
func hold(t *testing.T, g api.Grammar, words []api.Token, end int) string {
	got, want := said(grammar.Parse(g, words, end)), plainly(g, words, end)
	if got != want {
		t.Fatalf("%s: %s; want %s (%+v)", sayWords(words), got, want, g)
	}
	return want
}

// sayWords is words as they could be written.
func sayWords(words []api.Token) string {
	var out []string
	for _, w := range words {
		switch {
		case w.Kind == api.TNum || w.Kind == api.TText:
			out = append(out, sayLit(w.Lit))
		case w.Kind >= api.TName && w.Kind <= api.TSet:
			out = append(out, w.Text)
		default:
			out = append(out, fmt.Sprintf("%s?%d", w.Text, w.Kind))
		}
	}
	return strings.Join(out, " ")
}

// rightWords are words that play a part, strangeWords such as seldom do.
func rightWords() []api.Token {
	out := []api.Token{numberWord(3, 0), numberWord(0, 0), listWord(0, 1, 2), textWord(0, 97)}
	return append(out, wordsOf("a ⍺ ⍵ + - / ⌿ ⍨ ∘. ⍣ ( ( { { [ [ ) ) } } ] ]")...)
}

func strangeWords() []api.Token {
	out := []api.Token{numberWord(4096, 0), numberWord(4097, 0), numberWord(-1, 0), numberWord(1<<63-1, 0), listWord(0), listWord(0, 3), textWord(0), textWord(0, 97, 98)}
	out = append(out, wordsOf("b ⎕IO abcdefghi x ⋄ ← \\ × ( )")...)
	return append(out, api.Token{Kind: api.TSign}, api.Token{Kind: api.TName}, api.Token{Kind: api.TOpen}, api.Token{Kind: api.TClose}, api.Token{Kind: 8, Text: "+"}, api.Token{Kind: 0, Text: "a"}, api.Token{Kind: -1, Text: "("})
}

// wordsOf are words by their texts.
func wordsOf(s string) []api.Token {
	var out []api.Token
	for _, text := range strings.Fields(s) {
		kind := api.TSign
		switch {
		case strings.Contains("({[", text):
			kind = api.TOpen
		case strings.Contains(")}]", text):
			kind = api.TClose
		case text == "←":
			kind = api.TSet
		case text[0] >= 'a' && text[0] <= 'z', strings.Contains("⍺ ⍵ ⎕IO", text):
			kind = api.TName
		}
		out = append(out, api.Token{Kind: kind, Text: text})
	}
	return out
}

// eachOf does something with all words of up to so many among some, laid at places with gaps.
func eachOf(some []api.Token, most int, do func(words []api.Token)) {
	words := make([]api.Token, 0, most)
	var more func()
	more = func() {
		do(words)
		if len(words) == most {
			return
		}
		for _, w := range some {
			w.At = 3*len(words) + 1
			words = append(words, w)
			more()
			words = words[:len(words)-1]
		}
	}
	more()
}

// TestShort: 15.1 to 15.4, all words of up to three of those that play a part, and of more of those that play most of it, of each grammar, against the chapter said another way.
func TestShort(t *testing.T) {
	t.Parallel()
	for _, g := range someGrammars() {
		eachOf(append(rightWords(), strangeWords()...), 2, func(words []api.Token) { hold(t, g, words, 99) })
		eachOf(rightWords(), 3, func(words []api.Token) { hold(t, g, words, 99) })
	}
	for _, c := range []struct {
		g     api.Grammar
		words string
		most  int
	}{
		{fullGrammar(), "a ⍺ ⍵ + / ∘. ( ) { }", 5},
		{fullGrammar(), "a + / ( )", 7},
		{fullGrammar(), "a + ( )", 8},
		{aplGrammar(), "a + / ( )", 7},
		{aplGrammar(), "a + ∘. / ( )", 6},
		{aplGrammar(), "⍺ ⍵ + { }", 7},
		{fullGrammar(), "⍺ ⍵ + { }", 7},
		{aplGrammar(), "a + ( [ ] )", 6},
		{aplGrammar(), "a + ( { ) }", 6},
		{fullGrammar(), "a + ( { ) } ⍺", 6},
	} {
		eachOf(wordsOf(c.words), c.most, func(words []api.Token) { hold(t, c.g, words, 99) })
	}
	repeated := append([]api.Token{numberWord(3, 0), listWord(0, 1, 2)}, wordsOf("⍺ / { }")...)
	eachOf(repeated, 6, func(words []api.Token) { hold(t, fullGrammar(), words, 99) })
	power := append([]api.Token{numberWord(3, 0), numberWord(-1, 0)}, wordsOf("a + ⍣ / ( )")...)
	eachOf(power, 5, func(words []api.Token) { hold(t, fullGrammar(), words, 99) })
}

// TestChance: 15.1 to 15.4, words by chance.
func TestChance(t *testing.T) {
	t.Parallel()
	r := rand.New(rand.NewSource(15))
	right, strange, grammars := rightWords(), strangeWords(), someGrammars()
	for range 100000 {
		var words []api.Token
		seldom := 2 + r.Intn(60)
		for range r.Intn(14) {
			from := right
			if r.Intn(seldom) == 0 {
				from = strange
			}
			w := from[r.Intn(len(from))]
			w.At = r.Intn(1000)
			words = append(words, w)
		}
		hold(t, grammars[r.Intn(len(grammars))], words, r.Intn(1000))
	}
}
