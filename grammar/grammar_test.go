package grammar_test

import (
	"testing"

	"triglyph/alex"
	"triglyph/api"
	"triglyph/arr"
	"triglyph/grammar"
)

// TestExamples: the chapter's own, and the document's of this layer.
func TestExamples(t *testing.T) {
	l, _ := alex.Lex("1+⍳3")
	n, f := grammar.Parse(aplGrammar(), l, 6)
	if f != (api.Fault{}) || n.Kind != api.NDy || len(n.Kids) != 3 {
		t.Fatalf("%v, %v", n, f)
	}
	if n.Kids[0].Kind != api.NPrim || n.Kids[0].Name != "+" || n.Kids[1].Kind != api.NLit || !arr.Same(n.Kids[1].Lit, arr.Atom(1)) {
		t.Errorf("%v", n)
	}
	if mo := n.Kids[2]; mo.Kind != api.NMo || mo.Kids[0].Name != "⍳" || !arr.Same(mo.Kids[1].Lit, arr.Atom(3)) {
		t.Errorf("%v", mo)
	}
	texts{
		{"1+⍳3", "dy@0(+@1 1@0 mo@2(⍳@2 3@5))"},
		{"1+", "syntax at 2"},
		{"(1", "syntax at 2"},
		{"+/⍳4", "mo@0(adv/@0(+@0) mo@2(⍳@2 4@5))"},
		{"-/1 2 3", "mo(adv/(-) [1 2 3])"},
		{"1÷2", "dy(÷ 1 2)"},
		{"({⍵×2}⍣3)1", "mo@1(pow3@1(lam1@1(dy@2(×@5 R@2 2@7))) 1@14)"},
	}.check(t, inAPL())
	texts{
		{"1+", "syntax at 2"},
		{"1 + i. 3", "dy@0(+@2 1@0 mo@4(i.@4 3@7))"},
		{`+/"1 1 + i. 3`, `mo(adv"1(adv/(+)) dy(+ 1 mo(i. 3)))`},
		{"(+/ * #) 1 2 3", "mo@0(fork@0(adv/@1(+@1) *@4 #@6) [1 2 3]@9)"},
		{"+/\\ 1 2 3", "mo(adv\\(adv/(+)) [1 2 3])"},
	}.check(t, inJ())
	texts{
		{"1+", "syntax at 2"},
		{"+/1+!4", "mo(adv/(+) dy(+ 1 mo(! 4)))"},
		{"3{x+1}/5", "mo(pow3(lam1(dy(+ R 1))) 5)"},
		{"3 { x * 2 }/ 1", "mo(pow3(lam1(dy(* R 2))) 1)"},
		{"7 8 9[1]", "index([7 8 9] 1)"},
	}.check(t, inK())
}

// TestExpressions: 15.1, functions take all that stands to their right.
func TestExpressions(t *testing.T) {
	texts{
		{"1", "1"},
		{"1 2 3", "[1 2 3]"},
		{"'a'", "c97"},
		{"'abc'", "[c97 c98 c99]"},
		{"''", "[]"},
		{"a", "a"},
		{"abcdefgh", "abcdefgh"},
		{"-1", "mo(- 1)"},
		{"- - 1", "mo(- mo(- 1))"},
		{"1-2", "dy(- 1 2)"},
		{"1-2-3", "dy(- 1 dy(- 2 3))"},
		{"1--2", "dy(- 1 mo(- 2))"},
		{"-1-2", "mo(- dy(- 1 2))"},
		{"1-2×3+4", "dy(- 1 dy(× 2 dy(+ 3 4)))"},
		{"(1)", "1"},
		{"((1))", "1"},
		{"(1-2)-3", "dy(- dy(- 1 2) 3)"},
		{"1-(2-3)", "dy(- 1 dy(- 2 3))"},
		{"(1-2)", "dy(- 1 2)"},
		{"(-1)-(-2)", "dy(- mo(- 1) mo(- 2))"},
		{"-(1)", "mo(- 1)"},
		{"-(-(-1))", "mo(- mo(- mo(- 1)))"},
		{"(a)+(b)×(c)", "dy(+ a dy(× b c))"},
	}.check(t, inAPL())
}

// TestWrongExpressions: 15.1 and 15.4, each fault at its word, or where the text ends.
func TestWrongExpressions(t *testing.T) {
	texts{
		{"", "syntax at 0"},
		{"   ", "syntax at 3"},
		{"-", "syntax at 1"},
		{"1-  ", "syntax at 4"},
		{"1 - -", "syntax at 5"},
		{"(", "syntax at 1"},
		{"( ", "syntax at 2"},
		{"()", "syntax at 1"},
		{")", "syntax at 0"},
		{"1)", "syntax at 1"},
		{"1 ) + 2", "syntax at 2"},
		{"1]", "syntax at 1"},
		{"1}", "syntax at 1"},
		{"(1]", "syntax at 2"},
		{"(1}", "syntax at 2"},
		{"(1))", "syntax at 3"},
		{"((1)", "syntax at 4"},
		{"(1-)", "syntax at 3"},
		{"-)", "syntax at 1"},
		{"1 a", "syntax at 2"},
		{"a 1", "syntax at 2"},
		{"a b", "syntax at 2"},
		{"1 'a'", "syntax at 2"},
		{"1(2)", "syntax at 1"},
		{"1 (2) 3", "syntax at 2"},
		{"(1) 2", "syntax at 4"},
		{"(1)(2)", "syntax at 3"},
		{"1{2", "syntax at 1"},
		{"a←1", "syntax at 1"},
		{"←", "syntax at 0"},
		{"1+←", "syntax at 2"},
		{"1⋄2", "syntax at 1"},
		{"⋄", "syntax at 0"},
		{"⎕IO", "syntax at 0"},
		{"1+⎕IO", "syntax at 2"},
		{"⍺", "syntax at 0"},
		{"⍵", "syntax at 0"},
		{"1+⍵", "syntax at 2"},
		{"⍺+1", "syntax at 0"},
		{"(⍵)", "syntax at 1"},
		{"a[⍵]", "syntax at 2"},
		{"{⍵}⍵", "syntax at 5"},
		{"⍵+{⍵}1", "syntax at 0"},
		{"({⍵}1)+⍵", "syntax at 9"},
		{"/1", "syntax at 0"},
		{"⍨1", "syntax at 0"},
		{"1⍨2", "syntax at 1"},
		{"⍣", "syntax at 0"},
		{"[1]", "syntax at 0"},
		{"+[1]", "syntax at 1"},
		{"1+[1]", "syntax at 2"},
	}.check(t, inAPL())
}

// TestNames: 15.1, a name is one by 10.1, whatever the words come from; with an argument's name outside of a function's text it is as any other.
func TestNames(t *testing.T) {
	for text, is := range map[string]bool{
		"a": true, "w": true, "a1": true, "abcdefgh": true, "q0123456": true,
		"": false, "x": false, "y": false, "z": false, "A": false, "1": false, "1a": false, "ax": false, "abcdefghi": false, "a b": false, "⍵": false, "⍺": false, "⎕IO": false, "a\xff": false,
	} {
		want := "syntax at 7"
		if is {
			want = text + "@7"
		}
		words := []api.Token{{Kind: api.TName, Text: text, At: 7}}
		if got := said(grammar.Parse(aplGrammar(), words, 9)); got != want {
			t.Errorf("%q: %s; want %s", text, got, want)
		}
	}
	texts{{"x", "syntax at 0"}, {"y", "syntax at 0"}, {"{{y}} y", "syntax at 6"}, {"{{x+y}} 1", "mo(lam2(dy(+ L R)) 1)"}}.check(t, inJ())
	texts{{"x", "syntax at 0"}, {"y", "syntax at 0"}, {"{x}x", "syntax at 3"}, {"a[x]", "syntax at 2"}}.check(t, inK())
	named := inAPL().with(func(g *api.Grammar) { g.Left, g.Right = "a", "b" })
	texts{
		{"a", "a"},
		{"b", "b"},
		{"a+b", "dy(+ a b)"},
		{"a{a+b}b", "dy(lam2(dy(+ L R)) a b)"},
		{"{b}a", "mo(lam1(R) a)"},
		{"{a}a", "syntax at 0"},
		{"{b+c}a", "mo(lam1(dy(+ R c)) a)"},
		{"{⍵}a", "syntax at 1"},
	}.check(t, named)
}

// TestSquare: 15.1, brackets behind an operand, of a grammar that is Square.
func TestSquare(t *testing.T) {
	right := texts{
		{"a[1]", "index(a 1)"},
		{"1 2 3[1]", "index([1 2 3] 1)"},
		{"'abc'[1]", "index([c97 c98 c99] 1)"},
		{"(a)[1]", "index(a 1)"},
		{"(a+b)[1]", "index(dy(+ a b) 1)"},
		{"a[1][2]", "index(index(a 1) 2)"},
		{"a[1][2][3]", "index(index(index(a 1) 2) 3)"},
		{"a[b[1]]", "index(a index(b 1))"},
		{"a[1+2]", "index(a dy(+ 1 2))"},
		{"a[-1]", "index(a mo(- 1))"},
		{"(a[1])[2]", "index(index(a 1) 2)"},
		{"a[(1)]", "index(a 1)"},
		{"-a[1]", "mo(- index(a 1))"},
		{"a[1]+b[2]", "dy(+ index(a 1) index(b 2))"},
	}
	right.check(t, inAPL())
	right.check(t, inFull())
	right.check(t, inAPL().with(func(g *api.Grammar) { *g = api.Grammar{Verbs: g.Verbs, Square: true} }))
	texts{
		{"{⍵[1]}a", "mo(lam1(index(R 1)) a)"},
		{"{a[⍵]}a", "mo(lam1(index(a R)) a)"},
		{"{⍺[⍵]}a", "mo(lam2(index(L R)) a)"},
		{"1{⍺[⍵]}a", "dy(lam2(index(L R)) 1 a)"},
		{"a[", "syntax at 2"},
		{"a[]", "syntax at 2"},
		{"a[1", "syntax at 3"},
		{"a[1)", "syntax at 3"},
		{"a[1}", "syntax at 3"},
		{"a[1]]", "syntax at 4"},
		{"a[1][", "syntax at 5"},
		{"a[1][2", "syntax at 6"},
		{"a[1]2", "syntax at 4"},
		{"a[1](2)", "syntax at 4"},
		{"a[1+]", "syntax at 4"},
		{"a[1][2+]", "syntax at 7"},
		{"a[+]", "syntax at 3"},
		{"(a[1)]", "syntax at 4"},
		{"(+)[1]", "syntax at 3"},
		{"a+[1]", "syntax at 2"},
	}.check(t, inAPL())
	for _, c := range append(right, texts{{"a[1]]", ""}, {"a[", ""}, {"a[]", ""}}...) {
		plain := inAPL().with(func(g *api.Grammar) { g.Square = false })
		l, _ := plain.lex(c[0])
		want := -1
		for _, w := range l {
			if w.Text == "[" && want < 0 {
				want = w.At
			}
		}
		if _, f := grammar.Parse(plain.g, l, len(c[0])); f != (api.Fault{Err: api.ErrSyntax, At: want}) {
			t.Errorf("%q without square brackets: %v; want ErrSyntax at %d", c[0], f, want)
		}
	}
}
