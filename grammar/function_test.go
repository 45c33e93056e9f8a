package grammar_test

import (
	"fmt"
	"testing"

	"triglyph/api"
	"triglyph/arr"
	"triglyph/grammar"
)

// TestSigns: 15.2, each sign of Verbs is a function, of one and of two, and none of the others is.
func TestSigns(t *testing.T) {
	for _, d := range []dialect{inAPL(), inJ(), inK()} {
		for _, sign := range d.g.Verbs {
			texts{
				{sign + " a", "mo(" + sign + " a)"},
				{"a " + sign + " b", "dy(" + sign + " a b)"},
				{"(" + sign + ") a", "mo(" + sign + " a)"},
			}.check(t, d)
			none := d.with(func(g *api.Grammar) { g.Verbs = nil })
			texts{{sign + " a", "syntax at 0"}, {"a " + sign + " b", "syntax at 2"}}.check(t, none)
		}
	}
	for _, sign := range []string{"\\", "⍀", "⍨", "⍣", "⋄", "∘.", "/", "⌿"} {
		texts{{sign + " a", "syntax at 0"}, {"(" + sign + ") a", "syntax at 1"}}.check(t, inAPL())
	}
}

// TestAdverbs: 15.2, as many as there are, each of what was ahead.
func TestAdverbs(t *testing.T) {
	texts{
		{"+/a", "mo(adv/(+) a)"},
		{"+/⍨a", "mo(adv⍨(adv/(+)) a)"},
		{"+⍨/a", "mo(adv/(adv⍨(+)) a)"},
		{"+///a", "mo(adv/(adv/(adv/(+))) a)"},
		{`+/⌿\⍀⍨a`, `mo(adv⍨(adv⍀(adv\(adv⌿(adv/(+))))) a)`},
		{"a+⍨b", "dy(adv⍨(+) a b)"},
		{"a-⍨⍨b", "dy(adv⍨(adv⍨(-)) a b)"},
		{"(+/)a", "mo(adv/(+) a)"},
		{"(+)/a", "mo(adv/(+) a)"},
		{"((+)/)⍨a", "mo(adv⍨(adv/(+)) a)"},
		{"{⍵}/a", "mo(adv/(lam1(R)) a)"},
		{"{⍺+⍵}/a", "mo(adv/(lam2(dy(+ L R))) a)"},
		{"+/-/a", "mo(adv/(+) mo(adv/(-) a))"},
		{"+/", "syntax at 2"},
		{"a+/", "syntax at 3"},
		{"(+/", "syntax at 3"},
	}.check(t, inAPL())
	texts{
		{"+/a", "syntax at 1"},
		{"a+⍨b", "syntax at 2"},
		{"(+/)a", "syntax at 2"},
		{"+a", "mo(+ a)"},
	}.check(t, inAPL().with(func(g *api.Grammar) { g.Adverbs = nil }))
}

// TestBehind: 15.2, a sign of Behind is a function behind an operand alone.
func TestBehind(t *testing.T) {
	texts{
		{"a/b", "dy(/ a b)"},
		{"1 0 1/b", "dy(/ [1 0 1] b)"},
		{"a⌿b", "dy(⌿ a b)"},
		{"a/⍨b", "dy(adv⍨(/) a b)"},
		{"a//b", "dy(adv/(/) a b)"},
		{"a/⌿b", "dy(adv⌿(/) a b)"},
		{"a/⍣2 b", "dy(pow2(/) a b)"},
		{"a(/⍣2)b", "dy(pow2(/) a b)"},
		{"(a)/b", "dy(/ a b)"},
		{"a[1]/b", "dy(/ index(a 1) b)"},
		{"a(/)b", "dy(/ a b)"},
		{"a((/))b", "dy(/ a b)"},
		{"a(/⍨)b", "dy(adv⍨(/) a b)"},
		{"a(/)⍨b", "dy(adv⍨(/) a b)"},
		{"a/b/c", "dy(/ a dy(/ b c))"},
		{"a+/b", "dy(adv/(+) a b)"},
		{"/b", "syntax at 0"},
		{"(/)b", "syntax at 1"},
		{"+/b", "mo(adv/(+) b)"},
		{"a+(/)b", "syntax at 3"},
		{"(/b)", "syntax at 1"},
		{"a/", "syntax at 2"},
		{"a/)", "syntax at 2"},
		{"a\\b", "syntax at 1"},
		{"a[/b]", "syntax at 2"},
		{"{/⍵}a", "syntax at 1"},
		{"a{/⍵}b", "syntax at 2"},
		{"a{⍺/⍵}b", "dy(lam2(dy(/ L R)) a b)"},
	}.check(t, inAPL())
	texts{
		{"a(/+)b", "dy(hook(/ +) a b)"},
		{"a(+/)b", "dy(adv/(+) a b)"},
		{"a(+//)b", "dy(adv/(adv/(+)) a b)"},
		{"a(/(/)⌿)b", "dy(hook(/ adv⌿(/)) a b)"},
		{"a(/(/)(⌿))b", "dy(fork(/ / ⌿) a b)"},
		{"a((/+)(/))b", "dy(hook(hook(/ +) /) a b)"},
		{"(/+)b", "syntax at 1"},
		{"(+(/))b", "syntax at 3"},
	}.check(t, inFull())
	texts{{"a/b", "syntax at 1"}, {"a(/)b", "syntax at 1"}, {"+/b", "mo(adv/(+) b)"}}.check(t, inAPL().with(func(g *api.Grammar) { g.Behind = nil }))
	texts{{"a⍨b", "dy(⍨ a b)"}, {"⍨b", "syntax at 0"}, {"a⍨⍨b", "syntax at 4"}}.check(t, inAPL().with(func(g *api.Grammar) { g.Behind, g.Adverbs = []string{"⍨"}, nil }))
}

// TestOuter: 15.2, Outer ahead of whatever a function may begin with.
func TestOuter(t *testing.T) {
	texts{
		{"a∘.+b", "dy(outer(+) a b)"},
		{"∘.+b", "mo(outer(+) b)"},
		{"a∘.+⍨b", "dy(adv⍨(outer(+)) a b)"},
		{"a∘.+/⍨b", "dy(adv⍨(adv/(outer(+))) a b)"},
		{"a∘.+⍣3-b", "dy(pow3(outer(+)) a mo(- b))"},
		{"a∘.(+⍨)b", "dy(outer(adv⍨(+)) a b)"},
		{"a∘.(+)b", "dy(outer(+) a b)"},
		{"a∘.(+)/b", "dy(adv/(outer(+)) a b)"},
		{"a∘.{⍺+⍵}b", "dy(outer(lam2(dy(+ L R))) a b)"},
		{"∘.{⍵}b", "mo(outer(lam1(R)) b)"},
		{"a∘.(∘.+)b", "dy(outer(outer(+)) a b)"},
		{"a(∘.+)b", "dy(outer(+) a b)"},
		{"(∘.+)b", "mo(outer(+) b)"},
		{"a∘.∘.+b", "syntax at 1"},
		{"∘.∘.+b", "syntax at 0"},
		{"a∘./b", "syntax at 1"},
		{"a∘.⌿b", "syntax at 1"},
		{"a∘.(/)b", "syntax at 1"},
		{"a∘.((/))b", "syntax at 1"},
		{"a∘.(/⍨)b", "syntax at 1"},
		{"a(∘./)b", "syntax at 1"},
		{"∘./b", "syntax at 0"},
		{"a∘.", "syntax at 1"},
		{"∘.", "syntax at 0"},
		{"∘.b", "syntax at 0"},
		{"a∘.b", "syntax at 1"},
		{"a∘.(b)", "syntax at 1"},
		{"a∘.⍨b", "syntax at 1"},
		{"(∘.)b", "syntax at 1"},
		{"a∘.{⍵", "syntax at 1"},
		{"a∘.{⍺}b", "syntax at 5"},
		{"a∘.(+-)b", "syntax at 1"},
		{"a+∘.b", "syntax at 2"},
	}.check(t, inAPL())
	texts{
		{"a∘.(+-)b", "dy(outer(hook(+ -)) a b)"},
		{"a∘.(+-×)b", "dy(outer(fork(+ - ×)) a b)"},
		{"(∘.+∘.-∘.×)b", "mo(fork(outer(+) outer(-) outer(×)) b)"},
		{"a∘.(/-)b", "syntax at 1"},
		{"a(+∘./)b", "syntax at 1"},
		{"a(∘.+/)b", "dy(adv/(outer(+)) a b)"},
	}.check(t, inFull())
	texts{{"a∘.+b", "syntax at 1"}, {"∘.+b", "syntax at 0"}}.check(t, inAPL().with(func(g *api.Grammar) { g.Outer = "" }))
	texts{
		{"-b", "mo(- b)"},
		{"a-b", "dy(- a b)"},
		{"a-/b", "dy(adv/(-) a b)"},
		{"a-(/)b", "syntax at 3"},
		{"a(-)b", "dy(- a b)"},
	}.check(t, inAPL().with(func(g *api.Grammar) { g.Outer = "-" }))
}

// TestOpen: 15.2, Open begins a function just if it is closed, whatever opens and closes between.
func TestOpen(t *testing.T) {
	texts{
		{"{1}2", "mo(lam1(1) 2)"},
		{"1{2}3", "dy(lam1(2) 1 3)"},
		{"{(1)}2", "mo(lam1(1) 2)"},
		{"{a[1]}2", "mo(lam1(index(a 1)) 2)"},
		{"{{1}2}3", "mo(lam1(mo(lam1(1) 2)) 3)"},
		{"({1})2", "mo(lam1(1) 2)"},
		{"({1}/)2", "mo(adv/(lam1(1)) 2)"},
		{"{}2", "syntax at 1"},
		{"{1", "syntax at 0"},
		{"1{2", "syntax at 1"},
		{"({1", "syntax at 1"},
		{"{{1}", "syntax at 0"},
		{"{(1}", "syntax at 0"},
		{"{[1}", "syntax at 0"},
		{"{1)", "syntax at 2"},
		{"{1]", "syntax at 2"},
		{"1{2)3", "syntax at 3"},
		{"{(1}}2", "syntax at 3"},
		{"{(1]}2", "syntax at 3"},
		{"{[1]}2", "syntax at 1"},
		{"({1)2}", "syntax at 3"},
		{"({1)2)", "syntax at 3"},
		{"({1))2", "syntax at 3"},
		{"({)})2", "syntax at 2"},
		{"({1+})2", "syntax at 4"},
		{"1({2+})3", "syntax at 5"},
		{"1({2)3", "syntax at 1"},
		{"1 2{", "syntax at 3"},
		{"{1}}2", "syntax at 3"},
		{"{1}", "syntax at 3"},
		{"{1}{2}", "syntax at 6"},
		{"{1}{2}3", "mo(lam1(1) mo(lam1(2) 3))"},
		{"}1{", "syntax at 0"},
		{"{)1}{2}3", "syntax at 1"},
		{"{1⋄2}3", "syntax at 2"},
	}.check(t, inAPL())
	texts{
		{"({1}{2})3", "mo(hook(lam1(1) lam1(2)) 3)"},
		{"({1}{2}{3})3", "mo(fork(lam1(1) lam1(2) lam1(3)) 3)"},
		{"({1}{2+}{3})3", "syntax at 7"},
		{"({1}{2{3})3", "syntax at 9"},
	}.check(t, inFull())
}

// TestBrackets: 15.2, functions alone in brackets: one, two, three and four, with Trains and without.
func TestBrackets(t *testing.T) {
	texts{
		{"(+)a", "mo(+ a)"},
		{"((+))a", "mo(+ a)"},
		{"a(+)b", "dy(+ a b)"},
		{"(+)(-)a", "mo(+ mo(- a))"},
		{"a(+)(-)b", "dy(+ a mo(- b))"},
		{"(+-)a", "syntax at 3"},
		{"(+-×)a", "syntax at 5"},
		{"a(+-)b", "syntax at 1"},
		{"a(+-×)b", "syntax at 1"},
		{"((+)(-))a", "syntax at 7"},
		{"(+a)", "mo(+ a)"},
		{"(+)", "syntax at 3"},
		{"a(+)", "syntax at 4"},
		{"(+", "syntax at 2"},
		{"a(+", "syntax at 1"},
		{"(+]a", "syntax at 2"},
		{"(+}a", "syntax at 2"},
		{"a(+]b", "syntax at 1"},
		{"[+]a", "syntax at 0"},
		{"a()b", "syntax at 1"},
		{"a(b)c", "syntax at 1"},
		{"a(+b)c", "syntax at 1"},
		{"a(b+)c", "syntax at 1"},
		{"(+⍣)a", "syntax at 2"},
		{"a(+⍣)b", "syntax at 1"},
		{"(+))a", "syntax at 3"},
	}.check(t, inAPL())
	texts{
		{"(+)a", "mo(+ a)"},
		{"(+ -)a", "mo(hook(+ -) a)"},
		{"(+ - *)a", "mo(fork(+ - *) a)"},
		{"(+ - * %)a", "syntax at 8"},
		{"(+ - * % <)a", "syntax at 10"},
		{"a(+ -)b", "dy(hook(+ -) a b)"},
		{"a(+ - *)b", "dy(fork(+ - *) a b)"},
		{"a(+ - * %)b", "syntax at 1"},
		{"(+/ -)a", "mo(hook(adv/(+) -) a)"},
		{"(+ / -)a", "mo(hook(adv/(+) -) a)"},
		{"(+/\\ -~ *\"1)a", "mo(fork(adv\\(adv/(+)) adv~(-) adv\"1(*)) a)"},
		{"(+ -)/ a", "mo(adv/(hook(+ -)) a)"},
		{"(+ - *)^:2(a)", "mo(pow2(fork(+ - *)) a)"},
		{"((+ -) *)a", "mo(hook(hook(+ -) *) a)"},
		{"(+ (- *))a", "mo(hook(+ hook(- *)) a)"},
		{"((+ - *) (+ -) (+))a", "mo(fork(fork(+ - *) hook(+ -) +) a)"},
		{"((+) (-))a", "mo(hook(+ -) a)"},
		{"((+ -))a", "mo(hook(+ -) a)"},
		{"(((+ -)))a", "mo(hook(+ -) a)"},
		{"((+ - * %) -)a", "syntax at 9"},
		{"({{y}} + {{x+y}})a", "mo(fork(lam1(R) + lam2(dy(+ L R))) a)"},
		{"(+ a)", "mo(+ a)"},
		{"(+ - a)", "mo(+ mo(- a))"},
		{"(a + -)", "syntax at 6"},
		{"(+ a -)b", "syntax at 6"},
		{"(+ 1 -)b", "syntax at 6"},
		{"b(+ a -)c", "syntax at 1"},
		{"(+ -)", "syntax at 5"},
		{"(+ -", "syntax at 4"},
		{"(+ - *", "syntax at 6"},
		{"()a", "syntax at 1"},
		{"a()b", "syntax at 1"},
		{"(+ -}} a", "syntax at 4"},
	}.check(t, inJ())
}

// numberWord is a number's word, and listWord that of more.
func numberWord(n int64, at int) api.Token {
	return api.Token{Kind: api.TNum, Lit: arr.Atom(n), At: at}
}
func listWord(at int, l ...int64) api.Token {
	return api.Token{Kind: api.TNum, Lit: arr.Nums(l), At: at}
}
func signWord(text string, at int) api.Token {
	return api.Token{Kind: api.TSign, Text: text, At: at}
}
func textWord(at int, l ...int64) api.Token {
	return api.Token{Kind: api.TText, Lit: arr.Text(l), At: at}
}

// TestPower: 15.2 and 15.3, Power with a number that says how often, and with none.
func TestPower(t *testing.T) {
	for _, c := range []struct {
		word api.Token
		says bool
	}{
		{numberWord(0, 2), true},
		{numberWord(1, 2), true},
		{numberWord(2, 2), true},
		{numberWord(1<<12-1, 2), true},
		{numberWord(1<<12, 2), true},
		{numberWord(1<<12+1, 2), false},
		{numberWord(1<<13, 2), false},
		{numberWord(1<<32, 2), false},
		{numberWord(1<<32+1, 2), false},
		{numberWord(1<<63-1, 2), false},
		{numberWord(-1, 2), false},
		{numberWord(-1<<12, 2), false},
		{numberWord(-1<<32, 2), false},
		{numberWord(-1<<63, 2), false},
		{listWord(2), false},
		{listWord(2, 1), false},
		{listWord(2, 1, 2), false},
		{textWord(2), false},
		{textWord(2, 97), false},
		{textWord(2, 97, 98), false},
		{api.Token{Kind: api.TName, Text: "a", At: 2}, false},
		{api.Token{Kind: api.TNum, At: 2}, false},
		{api.Token{Kind: api.TNum, Lit: arr.Text([]int64{97}), At: 2}, false},
		{api.Token{Kind: 9, Lit: arr.Atom(3), At: 2}, false},
		{api.Token{Kind: api.TName, Lit: arr.Atom(3), At: 2}, false},
		{signWord("+", 2), false},
	} {
		words := []api.Token{signWord("+", 0), signWord("⍣", 1), c.word, numberWord(5, 3)}
		want := "syntax at 1"
		if c.says {
			want = fmt.Sprintf("mo@0(pow%d@0(+@0) 5@3)", c.word.Lit.Cells[0].N)
		}
		if got := said(grammar.Parse(aplGrammar(), words, 9)); got != want {
			t.Errorf("%v: %s; want %s", c.word, got, want)
		}
	}
	texts{
		{"{⍵}⍣3-1", "mo(pow3(lam1(R)) mo(- 1))"},
		{"(+⍣3)1", "mo(pow3(+) 1)"},
		{"+⍣3⍣0⍣4096(1)", "mo(pow4096(pow0(pow3(+))) 1)"},
		{"+/⍣3⍨a", "mo(adv⍨(pow3(adv/(+))) a)"},
		{"a+⍣3⍨b", "dy(adv⍨(pow3(+)) a b)"},
		{"+⍣¯1-a", "syntax at 1"},
		{"+⍣3 4-a", "syntax at 1"},
		{"+⍣4097-a", "syntax at 1"},
		{"+⍣'a'-a", "syntax at 1"},
		{"+⍣", "syntax at 1"},
		{"+⍣3", "syntax at 5"},
		{"+⍣-", "syntax at 1"},
		{"+⍣(3)a", "syntax at 1"},
		{"+/⍣a", "syntax at 2"},
		{"a⍣3", "syntax at 1"},
		{"⍣3", "syntax at 0"},
		{"+⍣3⍣¯1-a", "syntax at 5"},
	}.check(t, inAPL())
	texts{{"+^:3(a)", "mo(pow3(+) a)"}, {"(+^:3 -)a", "mo(hook(pow3(+) -) a)"}, {"(+^:3 -^:4 *)a", "mo(fork(pow3(+) pow4(-) *) a)"}, {"(+^:3 4 -)a", "syntax at 2"}}.check(t, inJ())
	texts{{"+⍣3-a", "syntax at 1"}, {"(+⍣3)a", "syntax at 2"}}.check(t, inAPL().with(func(g *api.Grammar) { g.Power = "" }))
}
