package grammar_test

import (
	"fmt"
	"testing"

	"triglyph/api"
	"triglyph/grammar"
)

// TestPlaces: where expressions begin, by the chapter's Words.
func TestPlaces(t *testing.T) {
	texts{
		{" 1", "1@1"},
		{"  a", "a@2"},
		{"1 + 2 - 3", "dy@0(+@2 1@0 dy@4(-@6 2@4 3@8))"},
		{" - - 1", "mo@1(-@1 mo@3(-@3 1@5))"},
		// What is in round brackets begins behind the bracket, and what it is part of at the bracket.
		{" ( 1 )", "1@3"},
		{"((1))", "1@2"},
		{"(1+2)", "dy@1(+@2 1@1 2@3)"},
		{"(1)+2", "dy@0(+@3 1@1 2@4)"},
		{"((1)+2)", "dy@1(+@4 1@2 2@5)"},
		{"((1))+2", "dy@0(+@5 1@2 2@6)"},
		{"-(1)", "mo@0(-@0 1@2)"},
		{"(-1)", "mo@1(-@1 1@2)"},
		{"1+(2+3)", "dy@0(+@1 1@0 dy@3(+@4 2@3 3@5))"},
		// Square brackets.
		{"a[1]", "index@0(a@0 1@2)"},
		{"a[1][2]", "index@0(index@0(a@0 1@2) 2@5)"},
		{"(a)[1]", "index@0(a@1 1@4)"},
		{"(a)[1][2]", "index@0(index@0(a@1 1@4) 2@7)"},
		{"(a[1])", "index@1(a@1 1@3)"},
		{"1+(a)[1]", "dy@0(+@1 1@0 index@2(a@3 1@6))"},
		{"(a)[1]+2", "dy@0(+@6 index@0(a@1 1@4) 2@7)"},
	}.check(t, inAPL())
}

// TestFunctionPlaces: where functions begin, with what stands about them, and their calls.
func TestFunctionPlaces(t *testing.T) {
	texts{
		{" + / ⍨ a", "mo@1(adv⍨@1(adv/@1(+@1)) a@9)"},
		{"a + / b", "dy@0(adv/@2(+@2) a@0 b@6)"},
		{"(+)a", "mo@1(+@1 a@3)"},
		{"((+))a", "mo@2(+@2 a@5)"},
		{"(+/)a", "mo@1(adv/@1(+@1) a@4)"},
		{"(+)/a", "mo@0(adv/@0(+@1) a@4)"},
		{"((+)/)a", "mo@1(adv/@1(+@2) a@6)"},
		{"((+)/)/a", "mo@0(adv/@0(adv/@1(+@2)) a@7)"},
		{"a(+)b", "dy@0(+@2 a@0 b@4)"},
		{"a(+)/b", "dy@0(adv/@1(+@2) a@0 b@5)"},
		{"a/b", "dy@0(/@1 a@0 b@2)"},
		{"a(/)b", "dy@0(/@2 a@0 b@4)"},
		{"+⍣2-a", "mo@0(pow2@0(+@0) mo@5(-@5 a@6))"},
		{"(+)⍣2-a", "mo@0(pow2@0(+@1) mo@7(-@7 a@8))"},
		{"(+)⍣2/a", "mo@0(adv/@0(pow2@0(+@1)) a@8)"},
		{"a∘.+b", "dy@0(outer@1(+@5) a@0 b@6)"},
		{"∘.+/b", "mo@0(adv/@0(outer@0(+@4)) b@6)"},
		{"∘.(+)b", "mo@0(outer@0(+@5) b@7)"},
		{"(∘.+)b", "mo@1(outer@1(+@5) b@7)"},
		{"(∘.(+))/b", "mo@0(adv/@0(outer@1(+@6)) b@10)"},
		{"{⍵}a", "mo@0(lam1@0(R@1) a@5)"},
		{"({⍵})a", "mo@1(lam1@1(R@2) a@7)"},
		{"a{⍺+⍵}b", "dy@0(lam2@1(dy@2(+@5 L@2 R@6)) a@0 b@10)"},
		{"{(⍺)+⍵}b", "mo@0(lam2@0(dy@1(+@6 L@2 R@7)) b@11)"},
		{"{⍵}/b", "mo@0(adv/@0(lam1@0(R@1)) b@6)"},
	}.check(t, inAPL())
	texts{
		{" (+ -) a", "mo@1(hook@1(+@2 -@4) a@7)"},
		{"(+ - *)a", "mo@0(fork@0(+@1 -@3 *@5) a@7)"},
		{"((+ -))a", "mo@1(hook@1(+@2 -@4) a@7)"},
		{"a(+ -)b", "dy@0(hook@1(+@2 -@4) a@0 b@6)"},
		{"(+ -)/ a", "mo@0(adv/@0(hook@0(+@1 -@3)) a@7)"},
		{"((+) (-)~ *)a", "mo@0(fork@0(+@2 adv~@5(-@6) *@10) a@12)"},
		{"((+ -) *)a", "mo@0(hook@0(hook@1(+@2 -@4) *@7) a@9)"},
		{"{{ y }} a", "mo@0(lam1@0(R@3) a@8)"},
	}.check(t, inJ())
	texts{
		{"{x+x}a", "mo@0(lam1@0(dy@1(+@2 R@1 R@3)) a@5)"},
		{"{(x)[x]}a", "mo@0(lam1@0(index@1(R@2 R@5)) a@8)"},
		// A number ahead of a function: the call is of one argument, so it begins at the function.
		{"3{x}/5", "mo@1(pow3@1(lam1@1(R@2)) 5@5)"},
		{" 3 {x}/ 5", "mo@3(pow3@3(lam1@3(R@4)) 5@8)"},
		{"(3){x}/5", "mo@3(pow3@3(lam1@3(R@4)) 5@7)"},
		{"3({x})/5", "mo@1(pow3@1(lam1@2(R@3)) 5@7)"},
		{"3({x}/)5", "mo@2(pow3@2(lam1@2(R@3)) 5@7)"},
		{"1+3{x}/5", "dy@0(+@1 1@0 mo@3(pow3@3(lam1@3(R@4)) 5@7))"},
		// As the function begins, so is the fault told.
		{"-1({x}/)5", "syntax at 3"},
		{"-1({x})/5", "syntax at 2"},
		{"-1(({x})/)5", "syntax at 3"},
	}.check(t, inK())
}

// TestAnyPlaces: the places are the words' own, and the end's, whatever these are.
func TestAnyPlaces(t *testing.T) {
	words := []api.Token{numberWord(1, 70), signWord("+", -5), signWord("-", 1<<40), numberWord(2, 0)}
	if got := said(grammar.Parse(aplGrammar(), words, 3)); got != "dy@70(+@-5 1@70 mo@1099511627776(-@1099511627776 2@0))" {
		t.Error(got)
	}
	for _, end := range []int{-1 << 63, -1, 0, 7, 1<<63 - 1} {
		for many := range 4 {
			want := api.Fault{Err: api.ErrSyntax, At: end}
			if many == 1 {
				want = api.Fault{}
			}
			if _, f := grammar.Parse(aplGrammar(), words[:many], end); f != want {
				t.Errorf("%d words, end %d: %v; want %v", many, end, f, want)
			}
		}
	}
	words = append(words, api.Token{Kind: api.TClose, Text: ")", At: -9})
	if got := said(grammar.Parse(aplGrammar(), words, 3)); got != "syntax at -9" {
		t.Error(got)
	}
}

// TestEmptyNames: a word that a grammar names by an empty text there is not, be there a word without a text or none.
func TestEmptyNames(t *testing.T) {
	a, one := api.Token{Kind: api.TName, Text: "a", At: 1}, numberWord(1, 9)
	empty := func(kind, at int) api.Token { return api.Token{Kind: kind, At: at} }
	open, close := api.Token{Kind: api.TOpen, Text: "{", At: 2}, api.Token{Kind: api.TClose, Text: "}", At: 4}
	bare := api.Grammar{Square: true, Trains: true}
	verbs := api.Grammar{Verbs: []string{"", "+", ""}, Adverbs: []string{""}, Behind: []string{""}, Trains: true, Square: true}
	texts := api.Grammar{Verbs: []string{"+"}, Open: "{", Square: true}
	closes := api.Grammar{Verbs: []string{"+"}, Close: "}", Square: true}
	for _, c := range []struct {
		what  string
		g     api.Grammar
		words []api.Token
		want  string
	}{
		{"nothing but an operand", api.Grammar{}, []api.Token{a}, "a@1"},
		{"an operand in brackets", api.Grammar{}, []api.Token{{Kind: api.TOpen, Text: "(", At: 0}, a, {Kind: api.TClose, Text: ")", At: 3}}, "a@1"},
		{"a sign", bare, []api.Token{a, signWord("+", 5), one}, "syntax at 5"},
		{"a sign without a text", bare, []api.Token{a, empty(api.TSign, 5), one}, "syntax at 5"},
		{"a sign without a text ahead", bare, []api.Token{empty(api.TSign, 5), one}, "syntax at 5"},
		{"as Verbs say", verbs, []api.Token{empty(api.TSign, 5), one}, "syntax at 5"},
		{"as Verbs and Behind say", verbs, []api.Token{a, empty(api.TSign, 5), one}, "syntax at 5"},
		{"as Adverbs say", verbs, []api.Token{a, signWord("+", 5), empty(api.TSign, 6), one}, "syntax at 6"},
		{"as Power says", api.Grammar{Verbs: []string{"+"}}, []api.Token{signWord("+", 5), empty(api.TSign, 6), one, a}, "syntax at 6"},
		{"as Outer says", api.Grammar{Verbs: []string{"+"}}, []api.Token{empty(api.TSign, 5), signWord("+", 6), a}, "syntax at 5"},
		{"as Open says", closes, []api.Token{empty(api.TOpen, 5), one, close, a}, "syntax at 5"},
		{"as Close says", texts, []api.Token{open, one, empty(api.TClose, 7), a}, "syntax at 7"},
		{"Close that is none", texts, []api.Token{open, one, close, a}, "syntax at 4"},
		{"Open that is none", closes, []api.Token{open, one, close, a}, "syntax at 2"},
		{"as Left and Right say", api.Grammar{Open: "{", Close: "}"}, []api.Token{open, empty(api.TName, 3), close, a}, "syntax at 3"},
		{"neither Left nor Right", api.Grammar{Open: "{", Close: "}"}, []api.Token{open, one, close, a}, "mo@2(lam1@2(1@9) a@1)"},
		{"Right alone", api.Grammar{Open: "{", Close: "}", Right: "⍵"}, []api.Token{open, {Kind: api.TName, Text: "⍵", At: 3}, close, a}, "mo@2(lam1@2(R@3) a@1)"},
		{"Left alone", api.Grammar{Open: "{", Close: "}", Left: "⍵"}, []api.Token{open, {Kind: api.TName, Text: "⍵", At: 3}, close, a}, "syntax at 2"},
		{"brackets without a text", bare, []api.Token{empty(api.TOpen, 5), one, empty(api.TClose, 7)}, "syntax at 5"},
		{"square ones without a text", bare, []api.Token{a, empty(api.TOpen, 5), one, empty(api.TClose, 7)}, "syntax at 5"},
		{"one closed without a text", bare, []api.Token{{Kind: api.TOpen, Text: "(", At: 5}, one, empty(api.TClose, 7)}, "syntax at 7"},
	} {
		if got := said(grammar.Parse(c.g, c.words, 99)); got != c.want {
			t.Errorf("%s: %s; want %s", c.what, got, c.want)
		}
	}
}

// TestStrangeKinds: words of kinds that no grammar knows, and words whose text would be right with another kind.
func TestStrangeKinds(t *testing.T) {
	parsed := func(words ...api.Token) string {
		for i := range words {
			words[i].At = 10 * i
		}
		return said(grammar.Parse(fullGrammar(), words, 1000))
	}
	a, plus := api.Token{Kind: api.TName, Text: "a"}, signWord("+", 0)
	rightKinds := map[string]int{"+": api.TSign, "/": api.TSign, "∘.": api.TSign, "(": api.TOpen, ")": api.TClose, "{": api.TOpen, "}": api.TClose, "[": api.TOpen, "]": api.TClose, "a": api.TName}
	expect := func(what, got, want string) {
		t.Helper()
		if got != want {
			t.Errorf("%s: %s; want %s", what, got, want)
		}
	}
	for _, kind := range []int{-1 << 63, -1, 0, api.TSet, 8, 9, 21, 100, 1<<63 - 1} {
		for text := range rightKinds {
			w := api.Token{Kind: kind, Text: text, Lit: numberWord(3, 0).Lit}
			what := text + " of a strange kind"
			expect(what, parsed(w), "syntax at 0")
			expect(what, parsed(w, a), "syntax at 0")
			expect(what, parsed(a, w, a), "syntax at 10")
			expect(what, parsed(plus, w, a), "syntax at 10")
			expect(what, parsed(a, plus, w), "syntax at 20")
			expect(what, parsed(api.Token{Kind: api.TOpen, Text: "("}, a, w), "syntax at 20")
			expect(what, parsed(api.Token{Kind: api.TOpen, Text: "("}, plus, w, a), "syntax at 20")
			expect(what, parsed(api.Token{Kind: api.TOpen, Text: "{"}, a, w), "syntax at 0")
			expect(what, parsed(a, api.Token{Kind: api.TOpen, Text: "["}, a, w), "syntax at 30")
			expect(what, parsed(plus, signWord("⍣", 0), w, a), "syntax at 10")
		}
	}
	for text, right := range rightKinds {
		for _, kind := range []int{api.TSign, api.TOpen, api.TClose} {
			if kind != right {
				what := fmt.Sprintf("%s of kind %d", text, kind)
				expect(what, parsed(api.Token{Kind: kind, Text: text}, a), "syntax at 0")
				if kind != api.TClose {
					expect(what, parsed(a, api.Token{Kind: kind, Text: text}, a), "syntax at 10")
				}
			}
		}
	}
}
