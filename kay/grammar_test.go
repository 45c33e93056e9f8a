package kay_test

import (
	"reflect"
	"slices"
	"strings"
	"testing"

	"triglyph/api"
	"triglyph/kay"
	"triglyph/klex"
)

// sorted is a list in order.
func sorted(l []string) []string { return slices.Sorted(slices.Values(l)) }

// sameGrammar tells whether two grammars are the same, in whatever order their Verbs are; a list of none may be nil or not.
func sameGrammar(a, b api.Grammar) bool {
	same := slices.Equal(sorted(a.Verbs), sorted(b.Verbs)) && slices.Equal(a.Adverbs, b.Adverbs) && slices.Equal(a.Behind, b.Behind)
	a.Verbs, a.Adverbs, a.Behind, b.Verbs, b.Adverbs, b.Behind = nil, nil, nil, nil, nil, nil
	return same && reflect.DeepEqual(a, b)
}

// TestGrammar: 19.1, each word and list, and that nothing else is there.
func TestGrammar(t *testing.T) {
	if got := kay.Grammar(); !sameGrammar(got, wanted()) {
		t.Errorf("%+v; want %+v", got, wanted())
	}
}

// TestGrammarNew: R3, P7, what is done to an answer, in its lists and behind them, no other one tells, nor Parse, nor Print.
func TestGrammarNew(t *testing.T) {
	first, second := kay.Grammar(), kay.Grammar()
	for _, l := range [][]string{first.Verbs, first.Adverbs, first.Behind} {
		for i := range l[:cap(l)] {
			l[:cap(l)][i] = "no sign"
		}
		_ = append(l, "a", "b")
	}
	first.Open, first.Left, first.Lone, first.Square = "", "", false, false
	for _, g := range []api.Grammar{second, kay.Grammar()} {
		if !sameGrammar(g, wanted()) {
			t.Errorf("%+v", g)
		}
	}
	texts{{`a:3{x}/1(+\)b[2]`, `a = mo(pow3(lam1(R)) dy(adv\(+) 1 index(b 2)))`}}.check(t)
	pairs{{line("a", dy(verb("?"), num(1), repeat(2, right(), mo(adverb(`\`, verb("-")), name("b"))))), `a : 1 ? 2 { x }/ -\ b`}}.check(t)
}

// TestListsApart: R3, the lists of one answer share no memory.
func TestListsApart(t *testing.T) {
	g := kay.Grammar()
	lists := [][]string{g.Verbs, g.Adverbs, g.Behind}
	for i, l := range lists {
		for j := range l[:cap(l)] {
			l[:cap(l)][j] = strings.Repeat("x", i+1)
		}
	}
	for i, l := range lists {
		for _, word := range l {
			if len(word) != i+1 {
				t.Errorf("list %d has words of another one", i)
			}
		}
	}
}

// TestSigns: 19.1, 19.2, which signs are functions, and which stand behind one: each word of K that is a sign, and no other.
func TestSigns(t *testing.T) {
	g := wanted()
	for _, s := range strings.Fields(`+ - * % & | < > = ~ ! # _ , ^ ? @ / \`) {
		// Behind a bracket, since / alone is a remark.
		if l, f := klex.Lex("(" + s); f != (api.Fault{}) || len(l) != 2 || l[1].Kind != api.TSign {
			t.Fatalf("%s is no sign", s)
		}
		isVerb, isAdverb := slices.Contains(g.Verbs, s), slices.Contains(g.Adverbs, s)
		for _, c := range []struct {
			is         bool
			text, want string
		}{
			{isVerb, s + " 1", "mo(" + s + " 1)"},
			{isVerb, "1 " + s + " 2", "dy(" + s + " 1 2)"},
			{isVerb, "a" + s + "b", "dy(" + s + " a b)"},
			{isVerb, `"a"` + s + `"b"`, "dy(" + s + " c97 c98)"},
			{isVerb, "(" + s + ")1", "mo(" + s + " 1)"},
			{isVerb, "1(" + s + ")2", "dy(" + s + " 1 2)"},
			{isVerb, "((" + s + "))1", "mo(" + s + " 1)"},
			{isVerb, "{x" + s + "y}1", "mo(lam2(dy(" + s + " L R)) 1)"},
			{isVerb, "a[" + s + "b]", "index(a mo(" + s + " b))"},
			{isVerb, "(" + s + "a)", "mo(" + s + " a)"},
			{isVerb, "a:" + s + "b", "a = mo(" + s + " b)"},
			{isAdverb, "+" + s + " 1", "mo(adv" + s + "(+) 1)"},
			{isAdverb, "1+" + s + " 2", "dy(adv" + s + "(+) 1 2)"},
			{isAdverb, "{x}" + s + " 1", "mo(adv" + s + "(lam1(R)) 1)"},
			{isAdverb, "a{x}" + s + " 1", "dy(adv" + s + "(lam1(R)) a 1)"},
			{isAdverb, "{x-y}" + s + " 1", "mo(adv" + s + "(lam2(dy(- L R))) 1)"},
			{isAdverb, "(+)" + s + " 1", "mo(adv" + s + "(+) 1)"},
			{isAdverb, "(+" + s + ")1", "mo(adv" + s + "(+) 1)"},
			{isAdverb, "+" + s + "/ 1", "mo(adv/(adv" + s + "(+)) 1)"},
			{isAdverb, `+\` + s + " 1", "mo(adv" + s + `(adv\(+)) 1)`},
		} {
			if got := bare(parsed(c.text)); (got == c.want) != c.is {
				t.Errorf("%s: %s; %s: %v", c.text, got, c.want, c.is)
			}
		}
		for _, text := range []string{s, "1" + s, "(" + s + ")", "{" + s + "}1", s + s, "a[" + s + "]"} {
			if got := parsed(text); !strings.HasPrefix(got, "syntax") {
				t.Errorf("%s: %s", text, got)
			}
		}
	}
}

// TestOnlyVerbs: 19.1, signs that are no functions are none, behind an operand either: there is no Behind.
func TestOnlyVerbs(t *testing.T) {
	texts{
		{"(/1)", "syntax at 1"},
		{`\1`, "syntax at 0"},
		{`(\1)`, "syntax at 1"},
		{"1/2", "syntax at 1"},
		{`1\2`, "syntax at 1"},
		{`1 \2`, "syntax at 2"},
		{"1//2", "syntax at 1"},
		{"a/b", "syntax at 1"},
		{`"a"/"b"`, "syntax at 3"},
		{"(a)/b", "syntax at 3"},
		{`a[1]\b`, "syntax at 4"},
		{"(/)1", "syntax at 1"},
		{"1(/)2", "syntax at 1"},
		{`1(\)2`, "syntax at 1"},
		{"1((/))2", "syntax at 1"},
		{":1", "syntax at 0"},
		{"1:2", "syntax at 1"},
		{"+:2", "syntax at 1"},
		{"{:x}2", "syntax at 1"},
		// Behind a blank / is a remark, so nothing stands there.
		{"/1", "syntax at 2"},
		{"1 /2", "1"},
		{"+ /1", "syntax at 4"},
		{"+ / 1", "syntax at 5"},
		{"+/ 1", "mo(adv/(+) 1)"},
	}.check(t)
}

// TestNoTrains: 19.1, of functions alone in brackets just one is one.
func TestNoTrains(t *testing.T) {
	texts{
		{"(+)1", "mo(+ 1)"},
		{"(+/)1", "mo(adv/(+) 1)"},
		{"((+/))1", "mo(adv/(+) 1)"},
		{"(+-)1", "syntax at 3"},
		{"(+-*)1", "syntax at 4"},
		{"(+-*%)1", "syntax at 5"},
		{"1(+-)2", "syntax at 1"},
		{"1(+-*)2", "syntax at 1"},
		{"(+/ *)1", "syntax at 5"},
		{"(+/ * #) 1 2 3", "syntax at 7"},
		{"({x} {x})1", "syntax at 8"},
		{"1({x}-)2", "syntax at 1"},
		{"((+)(-))1", "syntax at 7"},
		{"(+-)", "syntax at 3"},
		{"(+-1)", "mo(+ -1)"},
		{"(+- 1)", "mo(+ mo(- 1))"},
		{"(1 -)2", "syntax at 4"},
		{"(+)", "syntax at 3"},
		{"()1", "syntax at 1"},
	}.check(t)
}

// TestNoOuterNoPower: 19.1, nothing says each with each, and how often is said by what stands ahead alone.
func TestNoOuterNoPower(t *testing.T) {
	texts{
		{"a.+b", "syntax at 1"},
		{"1 @+2", "dy(@ 1 mo(+ 2))"},
		{"a@.+b", "syntax at 2"},
		{"+^2", "mo(+ mo(^ 2))"},
		{"+^2 1", "mo(+ mo(^ [2 1]))"},
		{"{x}^2", "mo(lam1(R) mo(^ 2))"},
		{"{x}^3 1", "mo(lam1(R) mo(^ [3 1]))"},
		{"+2", "mo(+ 2)"},
		{"{x}3", "mo(lam1(R) 3)"},
		{"{x}/3 1", "mo(adv/(lam1(R)) [3 1])"},
	}.check(t)
}

// TestLone: 19.1, a function's text that names one argument alone: that has the left one's name.
func TestLone(t *testing.T) {
	texts{
		// x alone, y alone, both, none.
		{"{x}5", "mo@0(lam1@0(R@1) 5@3)"},
		{"{y}5", "syntax at 0"},
		{"{x+y}5", "mo@0(lam2@0(dy@1(+@2 L@1 R@3)) 5@5)"},
		{"{y+x}5", "mo@0(lam2@0(dy@1(+@2 R@1 L@3)) 5@5)"},
		{"{5}5", "mo@0(lam1@0(5@1) 5@3)"},
		{"{a}5", "mo@0(lam1@0(a@1) 5@3)"},
		{"1{x}5", "dy(lam1(R) 1 5)"},
		{"1{y}5", "syntax at 1"},
		{"1{x-y}5", "dy(lam2(dy(- L R)) 1 5)"},
		{"1{7}5", "dy(lam1(7) 1 5)"},
		{"{x*x+x}5", "mo(lam1(dy(* R dy(+ R R))) 5)"},
		{"{(x)-a[x]}5", "mo(lam1(dy(- R index(a R))) 5)"},
		{"{x[1]}5", "mo(lam1(index(R 1)) 5)"},
		{"{y*y}5", "syntax at 0"},
		{"a:1{y-1}5", "syntax at 3"},
		// Texts of functions within one another: each has arguments of its own.
		{"{x+{x}x}5", "mo(lam1(dy(+ R mo(lam1(R) R))) 5)"},
		{"{{x}1}5", "mo(lam1(mo(lam1(R) 1)) 5)"},
		{"{{x-y}x}5", "mo(lam1(mo(lam2(dy(- L R)) R)) 5)"},
		{"{x{x-y}x}5", "mo(lam1(dy(lam2(dy(- L R)) R R)) 5)"},
		{"1{x+{x}y}5", "dy(lam2(dy(+ L mo(lam1(R) R))) 1 5)"},
		{"1{y+{x-y}x}5", "dy(lam2(dy(+ R mo(lam2(dy(- L R)) L))) 1 5)"},
		{"{{y}x}5", "syntax at 1"},
		{"{{x}y}5", "syntax at 0"},
		{"{x+{y}1}5", "syntax at 3"},
		{"{{{x}x}x}5", "mo(lam1(mo(lam1(mo(lam1(R) R)) R)) 5)"},
		// Outside of one they are no names.
		{"x", "syntax at 0"},
		{"y", "syntax at 0"},
		{"x+1", "syntax at 0"},
		{"1+y", "syntax at 2"},
		{"{x}x", "syntax at 3"},
		{"a[x]", "syntax at 2"},
		{"3{x}/y", "syntax at 5"},
		{"{{{y}}1", "syntax at 0"},
		{"{{{y}}1}2", "syntax at 2"},
		{"{x", "syntax at 0"},
		{"}", "syntax at 0"},
		{"{x)1", "syntax at 2"},
		{"{}1", "syntax at 1"},
		{"{{x}}1", "syntax at 4"},
	}.check(t)
}

// TestOften: 19.1, 19.2, a function that a number ahead lets be done so often, and numbers that can't say how often.
func TestOften(t *testing.T) {
	texts{
		{"3{x+1}/5", "mo@1(pow3@1(lam1@1(dy@2(+@3 R@2 1@4))) 5@7)"},
		{"3 {x} / 5", "syntax at 9"},
		{"3 {x}/ 5", "mo(pow3(lam1(R)) 5)"},
		{"0{x}/5", "mo(pow0(lam1(R)) 5)"},
		{"1{7}/5", "mo(pow1(lam1(7)) 5)"},
		{"4096{x}/5", "mo(pow4096(lam1(R)) 5)"},
		{"0004096{x}/5", "mo(pow4096(lam1(R)) 5)"},
		{"-0{x}/5", "mo(pow0(lam1(R)) 5)"},
		{"(3){x}/5", "mo(pow3(lam1(R)) 5)"},
		{"3({x}/)5", "mo@2(pow3@2(lam1@2(R@3)) 5@7)"},
		{"3({x})/5", "mo(pow3(lam1(R)) 5)"},
		{"((3))(({x}/))(5)", "mo(pow3(lam1(R)) 5)"},
		{"3{x}/1 2", "mo(pow3(lam1(R)) [1 2])"},
		{"3{x}/-a", "mo(pow3(lam1(R)) mo(- a))"},
		{"3{x}/a-b", "mo(pow3(lam1(R)) dy(- a b))"},
		{"-3{x}/5", "syntax at 2"},
		{"- 3{x}/5", "mo(- mo(pow3(lam1(R)) 5))"},
		{"a-3{x}/5", "dy(- a mo(pow3(lam1(R)) 5))"},
		{"3{x}/2{x}/5", "mo(pow3(lam1(R)) mo(pow2(lam1(R)) 5))"},
		{"3{2{x}/x}/5", "mo(pow3(lam1(mo(pow2(lam1(R)) R))) 5)"},
		{"(3{x}/5)-1", "dy(- mo(pow3(lam1(R)) 5) 1)"},
		{"a:3{x}/5", "a = mo(pow3(lam1(R)) 5)"},
		// A number that can't say how often.
		{"4097{x}/5", "syntax at 4"},
		{"-1{x}/5", "syntax at 2"},
		{"9223372036854775807{x}/5", "syntax at 19"},
		{"4294967296{x}/5", "syntax at 10"},
		{"1 2{x}/5", "syntax at 3"},
		{`"a"{x}/5`, "syntax at 3"},
		{`""{x}/5`, "syntax at 2"},
		{`"ab"{x}/5`, "syntax at 4"},
		{"4097({x}/)5", "syntax at 5"},
		{"4097{x}/", "syntax at 4"},
		{"4097{x}/)", "syntax at 4"},
		{"3{x}/", "syntax at 5"},
		{"3{x}/)", "syntax at 5"},
		// What is another function, or no number, is of two.
		{"a{x}/5", "dy(adv/(lam1(R)) a 5)"},
		{"(1+2){x}/5", "dy(adv/(lam1(R)) dy(+ 1 2) 5)"},
		{"3[0]{x}/5", "dy(adv/(lam1(R)) index(3 0) 5)"},
		{"3{x+y}/5", "dy(adv/(lam2(dy(+ L R))) 3 5)"},
		{"3+/5", "dy(adv/(+) 3 5)"},
		{`3{x}\5`, `dy(adv\(lam1(R)) 3 5)`},
		{`3{x}\/5`, `dy(adv/(adv\(lam1(R))) 3 5)`},
		{`3{x}/\5`, `dy(adv\(adv/(lam1(R))) 3 5)`},
		{"3{x}//5", "dy(adv/(adv/(lam1(R))) 3 5)"},
		{"3{x}5", "dy(lam1(R) 3 5)"},
		{"{x}/5", "mo(adv/(lam1(R)) 5)"},
		{"4097{x+y}/5", "dy(adv/(lam2(dy(+ L R))) 4097 5)"},
		{"1 2+/5", "dy(adv/(+) [1 2] 5)"},
		{"x{x}/5", "syntax at 0"},
		{"{x{x}/5}1", "mo(lam1(dy(adv/(lam1(R)) R 5)) 1)"},
	}.check(t)
}

// TestSquare: 19.1, 19.2, indexes in square brackets.
func TestSquare(t *testing.T) {
	texts{
		{"a[1]", "index@0(a@0 1@2)"},
		{"a [ 1 ]", "index@0(a@0 1@4)"},
		{"7 8 9[!2]", "index@0([7 8 9]@0 mo@6(!@6 2@7))"},
		{`"abc"[0]`, "index([c97 c98 c99] 0)"},
		{"(a)[1]", "index@0(a@1 1@4)"},
		{"(+a)[1]", "index@0(mo@1(+@1 a@2) 1@5)"},
		{"a[-1]", "index(a -1)"},
		{"a[b-1]", "index(a dy(- b 1))"},
		{"a[1]-1", "dy@0(-@4 index@0(a@0 1@2) 1@5)"},
		{"a[1] -1", "syntax at 5"},
		{"-a[1]", "mo(- index(a 1))"},
		{"1-a[1]", "dy(- 1 index(a 1))"},
		{"+/a[!3]", "mo(adv/(+) index(a mo(! 3)))"},
		{"a:b[1]", "a = index(b 1)"},
		// Several, and within one another.
		{"a[1][2]", "index@0(index@0(a@0 1@2) 2@5)"},
		{"a[1][2][3]", "index(index(index(a 1) 2) 3)"},
		{"(a[1])[2]", "index(index(a 1) 2)"},
		{"a[b[1]]", "index@0(a@0 index@2(b@2 1@4))"},
		{"a[b[c[1]]]", "index(a index(b index(c 1)))"},
		{"a[b[1]][c[2]]", "index(index(a index(b 1)) index(c 2))"},
		{"a[1[2]]", "index(a index(1 2))"},
		{"a[3{x}/b]", "index(a mo(pow3(lam1(R)) b))"},
		{"3{x}/a[1]", "mo(pow3(lam1(R)) index(a 1))"},
		{"{x[y]}/a", "mo(adv/(lam2(index(L R))) a)"},
		{"{x[x]}a[1]", "mo(lam1(index(R R)) index(a 1))"},
		// One that is not closed, or closed by another word.
		{"a[1", "syntax at 3"},
		{"a[", "syntax at 2"},
		{"a[]", "syntax at 2"},
		{"a[1)", "syntax at 3"},
		{"a[1}", "syntax at 3"},
		{"(a[1)]", "syntax at 4"},
		{"a[b[1]", "syntax at 6"},
		{"a[1][2", "syntax at 6"},
		{"a[1][", "syntax at 5"},
		{"a[1+]", "syntax at 4"},
		{"a[b 1]", "syntax at 4"},
		{"a[b:1]", "syntax at 3"},
		{"a:b[1", "syntax at 5"},
		{"{x[1}2", "syntax at 0"},
		{"{x[1}]2", "syntax at 4"},
		// One behind nothing, or behind a function.
		{"[1]", "syntax at 0"},
		{"[", "syntax at 0"},
		{"]", "syntax at 0"},
		{"a]", "syntax at 1"},
		{"+[1]", "syntax at 1"},
		{"{x}[1]", "syntax at 3"},
		{"+/[1]", "syntax at 2"},
		{"(+)[1]", "syntax at 3"},
		{"a+[1]", "syntax at 2"},
		{"a[1]b", "syntax at 4"},
		{"a[1]2", "syntax at 4"},
		{"a(b)[1]", "syntax at 1"},
	}.check(t)
}

// TestWays: 19.1, what else K's grammar lets stand, and what not: its numbers below 0, texts and words.
func TestWays(t *testing.T) {
	texts{
		{"-5", "-5"},
		{"- 5", "mo(- 5)"},
		{"1-2", "dy(- 1 2)"},
		{"1 -2", "[1 -2]"},
		{"1 - 2", "dy(- 1 2)"},
		{"1--2", "dy(- 1 -2)"},
		{"a-1", "dy(- a 1)"},
		{"a -1", "syntax at 2"},
		{"_5", "mo(_ 5)"},
		{`"it's"`, "[c105 c116 c39 c115]"},
		{`"\"\\"`, "[c34 c92]"},
		{`""`, "[]"},
		{`"a"`, "c97"},
		{"*/1+!5", "mo(adv/(*) dy(+ 1 mo(! 5)))"},
		{`+\a`, `mo(adv\(+) a)`},
		{"{x>0}#a", "mo(lam1(dy(> R 0)) mo(# a))"},
		{"(a", "syntax at 2"},
		{"a)", "syntax at 1"},
		{"(a}", "syntax at 2"},
		{"1 a", "syntax at 2"},
		{"a b", "syntax at 2"},
		{"1 +", "syntax at 3"},
	}.check(t)
}
