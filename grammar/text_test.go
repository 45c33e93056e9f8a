package grammar_test

import (
	"fmt"
	"testing"

	"triglyph/api"
	"triglyph/arr"
	"triglyph/grammar"
)

// TestTexts: 15.3, which arguments a function's text names, of a grammar that is not Lone.
func TestTexts(t *testing.T) {
	texts{
		{"{⍺+⍵}a", "mo(lam2(dy(+ L R)) a)"},
		{"a{⍺+⍵}b", "dy(lam2(dy(+ L R)) a b)"},
		{"{⍵+⍺}a", "mo(lam2(dy(+ R L)) a)"},
		{"{⍺+⍵+⍺}a", "mo(lam2(dy(+ L dy(+ R L))) a)"},
		{"{(⍺)+-⍵}a", "mo(lam2(dy(+ L mo(- R))) a)"},
		{"{a[⍺]+⍵[1]}a", "mo(lam2(dy(+ index(a L) index(R 1))) a)"},
		{"{⍵}a", "mo(lam1(R) a)"},
		{"{⍵+⍵}a", "mo(lam1(dy(+ R R)) a)"},
		{"a{⍵}b", "dy(lam1(R) a b)"},
		{"{1}a", "mo(lam1(1) a)"},
		{"{b}a", "mo(lam1(b) a)"},
		{"{⍺}a", "syntax at 0"},
		{"a{⍺}b", "syntax at 1"},
		{"1+{⍺}a", "syntax at 2"},
		{"{⍺+⍺}a", "syntax at 0"},
		{"{a[⍺]}a", "syntax at 0"},
		{"{1+(⍺)}a", "syntax at 0"},
		{"({⍺})a", "syntax at 1"},
		{"{⍺}/a", "syntax at 0"},
		{"∘.{⍺}a", "syntax at 4"},
		// The fault in a text shows ahead of what it names.
		{"{⍺+}a", "syntax at 5"},
		{"{⍺)a", "syntax at 4"},
		{"{⍺}", "syntax at 0"},
		{"{⍺}+", "syntax at 0"},
	}.check(t, inAPL())
	texts{
		{"{{x+y}} a", "mo(lam2(dy(+ L R)) a)"},
		{"{{y}} a", "mo(lam1(R) a)"},
		{"{{1}} a", "mo(lam1(1) a)"},
		{"{{x}} a", "syntax at 0"},
	}.check(t, inJ())
}

// TestTextsWithin: 15.3, what a text within a text names is the inner function's alone.
func TestTextsWithin(t *testing.T) {
	texts{
		{"{{⍵}⍵}a", "mo(lam1(mo(lam1(R) R)) a)"},
		{"{{⍺+⍵}⍵}a", "mo(lam1(mo(lam2(dy(+ L R)) R)) a)"},
		{"{⍺{⍵}⍵}a", "mo(lam2(dy(lam1(R) L R)) a)"},
		{"{⍺{⍺+⍵}⍵}a", "mo(lam2(dy(lam2(dy(+ L R)) L R)) a)"},
		{"{{⍺+⍵}1}a", "mo(lam1(mo(lam2(dy(+ L R)) 1)) a)"},
		{"{{⍵}1}a", "mo(lam1(mo(lam1(R) 1)) a)"},
		{"{⍺{⍵}1}a", "syntax at 0"},
		{"{⍺{⍺+⍵}1}a", "syntax at 0"},
		{"{{⍵}⍺}a", "syntax at 0"},
		{"{⍵{⍺}⍵}a", "syntax at 4"},
		{"{⍺{⍺}⍵}a", "syntax at 4"},
		{"{⍺{⍺}1}a", "syntax at 4"},
		{"{({⍺+⍵}⍵)+⍺}a", "mo(lam2(dy(+ mo(lam2(dy(+ L R)) R) L)) a)"},
		{"{{{⍺+⍵}⍵}1}a", "mo(lam1(mo(lam1(mo(lam2(dy(+ L R)) R)) 1)) a)"},
		{"({⍵}1)+{⍵}2", "dy(+ mo(lam1(R) 1) mo(lam1(R) 2))"},
		{"({⍵}1)+⍵", "syntax at 9"},
		{"{({⍵}1)+⍵}2", "mo(lam1(dy(+ mo(lam1(R) 1) R)) 2)"},
	}.check(t, inAPL())
	texts{
		{"{{x}x}a", "mo(lam1(mo(lam1(R) R)) a)"},
		{"{{x+y}x}a", "mo(lam1(mo(lam2(dy(+ L R)) R)) a)"},
		{"{x{x+y}x}a", "mo(lam1(dy(lam2(dy(+ L R)) R R)) a)"},
		{"{x{x}y}a", "mo(lam2(dy(lam1(R) L R)) a)"},
		{"{x{x+y}y}a", "mo(lam2(dy(lam2(dy(+ L R)) L R)) a)"},
		{"{{x+y}1}a", "mo(lam1(mo(lam2(dy(+ L R)) 1)) a)"},
		{"{{x}1}a", "mo(lam1(mo(lam1(R) 1)) a)"},
		{"{{x}y}a", "syntax at 0"},
		{"{x{y}x}a", "syntax at 2"},
		{"{y{y}x}a", "syntax at 2"},
		{"{{{x+y}x}x}a", "mo(lam1(mo(lam1(mo(lam2(dy(+ L R)) R)) R)) a)"},
		{"{({x}x)+x}a", "mo(lam1(dy(+ mo(lam1(R) R) R)) a)"},
	}.check(t, inK())
}

// TestLone: 15.3, of a grammar that is Lone one argument alone has the left one's name.
func TestLone(t *testing.T) {
	texts{
		{"{x}a", "mo(lam1(R) a)"},
		{"{x+x}a", "mo(lam1(dy(+ R R)) a)"},
		{"{-x}a", "mo(lam1(mo(- R)) a)"},
		{"{(x)}a", "mo(lam1(R) a)"},
		{"{x[x]}a", "mo(lam1(index(R R)) a)"},
		{"{b[x][x]}a", "mo(lam1(index(index(b R) R)) a)"},
		{"{1+x}/a", "mo(adv/(lam1(dy(+ 1 R))) a)"},
		{"a{x}b", "dy(lam1(R) a b)"},
		{"{x+y}a", "mo(lam2(dy(+ L R)) a)"},
		{"a{x+y}b", "dy(lam2(dy(+ L R)) a b)"},
		{"{y+x}a", "mo(lam2(dy(+ R L)) a)"},
		{"{1}a", "mo(lam1(1) a)"},
		{"{y}a", "syntax at 0"},
		{"a{y}b", "syntax at 1"},
		{"1+{y+y}a", "syntax at 2"},
		{"{b[y]}a", "syntax at 0"},
		{"{y+}a", "syntax at 3"},
		{"{y)a", "syntax at 2"},
		{"{y}", "syntax at 0"},
		{"({y})a", "syntax at 1"},
	}.check(t, inK())
	lone := inAPL().with(func(g *api.Grammar) { g.Lone = true })
	texts{
		{"{⍺}a", "mo(lam1(R) a)"},
		{"{⍵}a", "syntax at 0"},
		{"{⍺+⍵}a", "mo(lam2(dy(+ L R)) a)"},
		{"{⍺∘.+⍺}a", "mo(lam1(dy(outer(+) R R)) a)"},
		{"{⍺+⍣2-⍺}a", "mo(lam1(dy(pow2(+) R mo(- R))) a)"},
	}.check(t, lone)
}

// TestRepeated: 15.3, of a grammar that is Lone a number ahead of a function says how often it is done.
func TestRepeated(t *testing.T) {
	texts{
		{"3{x+1}/5", "mo(pow3(lam1(dy(+ R 1))) 5)"},
		{"0{x}/5", "mo(pow0(lam1(R)) 5)"},
		{"4096{x}/5", "mo(pow4096(lam1(R)) 5)"},
		{"(3){x}/5", "mo(pow3(lam1(R)) 5)"},
		{"((3)){x}/5", "mo(pow3(lam1(R)) 5)"},
		{"3({x})/5", "mo(pow3(lam1(R)) 5)"},
		{"3({x}/)5", "mo(pow3(lam1(R)) 5)"},
		{"3({x}/)+5", "mo(pow3(lam1(R)) mo(+ 5))"},
		{"3{1}/5", "mo(pow3(lam1(1)) 5)"},
		{"3{x}/4{x}/5", "mo(pow3(lam1(R)) mo(pow4(lam1(R)) 5))"},
		{"1+3{x}/5", "dy(+ 1 mo(pow3(lam1(R)) 5))"},
		{"(3{x}/5)+1", "dy(+ mo(pow3(lam1(R)) 5) 1)"},
		{"{3{x}/x}5", "mo(lam1(mo(pow3(lam1(R)) R)) 5)"},
		{"{3{x+1}/x+y}5", "mo(lam2(mo(pow3(lam1(dy(+ R 1))) dy(+ L R))) 5)"},
		// No such ones.
		{"{x}/5", "mo(adv/(lam1(R)) 5)"},
		{"3{x+y}/5", "dy(adv/(lam2(dy(+ L R))) 3 5)"},
		{"3{x}\\5", "dy(adv\\(lam1(R)) 3 5)"},
		{"3{x}5", "dy(lam1(R) 3 5)"},
		{"3{x}//5", "dy(adv/(adv/(lam1(R))) 3 5)"},
		{"3{x}\\/5", "dy(adv/(adv\\(lam1(R))) 3 5)"},
		{"3{x}/\\5", "dy(adv\\(adv/(lam1(R))) 3 5)"},
		{"3+/5", "dy(adv/(+) 3 5)"},
		{"a{x}/5", "dy(adv/(lam1(R)) a 5)"},
		{"3[0]{x}/5", "dy(adv/(lam1(R)) index(3 0) 5)"},
		{"(1+2){x}/5", "dy(adv/(lam1(R)) dy(+ 1 2) 5)"},
		{"{x{x}/x}5", "mo(lam1(dy(adv/(lam1(R)) R R)) 5)"},
		// The number does not say how often.
		{"-1{x}/5", "syntax at 2"},
		{"4097{x}/5", "syntax at 4"},
		{"1 2{x}/5", "syntax at 3"},
		{`"a"{x}/5`, "syntax at 3"},
		{`"ab"{x}/5`, "syntax at 4"},
		{`""{x}/5`, "syntax at 2"},
		{"-1({x})/5", "syntax at 2"},
		{"1+-1{x}/5", "syntax at 4"},
		{"(-1){x}/5", "syntax at 4"},
		// What is told of the function comes ahead, and what is told of the expression behind.
		{"-1{y}/5", "syntax at 2"},
		{"-1{x+}/5", "syntax at 5"},
		{"-1{x}/", "syntax at 2"},
		{"-1{x}/)", "syntax at 2"},
		{"-1{x}/5+", "syntax at 2"},
		{"-1{x}/y", "syntax at 2"},
		{"3{x}/", "syntax at 5"},
		{"3{x}/5+", "syntax at 7"},
		{"3{x}/)", "syntax at 5"},
		{"-1{x}5", "dy(lam1(R) -1 5)"},
		{"-1{x}/5)", "syntax at 2"},
	}.check(t, inK())
	texts{{"3{⍵}/5", "dy(adv/(lam1(R)) 3 5)"}, {"¯1{⍵}/5", "dy(adv/(lam1(R)) -1 5)"}}.check(t, inAPL())
	texts{
		{"3{⍺}/5", "mo(pow3(lam1(R)) 5)"},
		{"3{⍺}⌿5", "dy(adv⌿(lam1(R)) 3 5)"},
		{"3∘.{⍺}/5", "dy(adv/(outer(lam1(R))) 3 5)"},
		{"3{⍺}⍣2/5", "dy(adv/(pow2(lam1(R))) 3 5)"},
		{"3({⍺}+)/5", "dy(adv/(hook(lam1(R) +)) 3 5)"},
	}.check(t, inFull())
	texts{{"3{⍺}/5", "syntax at 6"}, {"3({⍺}/)5", "dy(hook(lam1(R) /) 3 5)"}}.check(t, inFull().with(func(g *api.Grammar) { g.Adverbs = nil }))
}

// TestRepeatedNumbers: 15.3, each number ahead of a function; the same numbers say how often as behind Power.
func TestRepeatedNumbers(t *testing.T) {
	function := []api.Token{{Kind: api.TOpen, Text: "{", At: 10}, {Kind: api.TName, Text: "x", At: 11}, {Kind: api.TClose, Text: "}", At: 12}, signWord("/", 13), numberWord(5, 14)}
	for _, c := range []struct {
		word api.Token
		says bool
	}{
		{numberWord(0, 4), true},
		{numberWord(1, 4), true},
		{numberWord(1<<12, 4), true},
		{numberWord(1<<12+1, 4), false},
		{numberWord(1<<32, 4), false},
		{numberWord(1<<32+1, 4), false},
		{numberWord(1<<63-1, 4), false},
		{numberWord(-1, 4), false},
		{numberWord(-1<<63, 4), false},
		{listWord(4), false},
		{listWord(4, 3), false},
		{listWord(4, 3, 3), false},
		{textWord(4), false},
		{textWord(4, 97), false},
		{textWord(4, 97, 98), false},
		{api.Token{Kind: api.TNum, At: 4}, false},
		{api.Token{Kind: api.TNum, Lit: api.Arr{Shape: []int{1, 1}, Cells: arr.Atom(3).Cells}, At: 4}, false},
	} {
		want := "syntax at 10"
		if c.says {
			want = fmt.Sprintf("mo@10(pow%d@10(lam1@10(R@11)) 5@14)", c.word.Lit.Cells[0].N)
		}
		words := append([]api.Token{c.word}, function...)
		if got := said(grammar.Parse(kGrammar(), words, 20)); got != want {
			t.Errorf("%v: %s; want %s", c.word, got, want)
		}
	}
}
