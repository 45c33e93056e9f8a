package jay_test

import (
	"reflect"
	"slices"
	"strings"
	"testing"

	"triglyph/api"
	"triglyph/jay"
	"triglyph/jlex"
)

// sorted is a list in order.
func sorted(l []string) []string { return slices.Sorted(slices.Values(l)) }

// sameGrammar tells whether two grammars are the same, in whatever order their Verbs are; a list of none may be nil or not.
func sameGrammar(a, b api.Grammar) bool {
	same := slices.Equal(sorted(a.Verbs), sorted(b.Verbs)) && slices.Equal(a.Adverbs, b.Adverbs) && slices.Equal(a.Behind, b.Behind)
	a.Verbs, a.Adverbs, a.Behind, b.Verbs, b.Adverbs, b.Behind = nil, nil, nil, nil, nil, nil
	return same && reflect.DeepEqual(a, b)
}

// TestGrammar: 18.1, each word and list, and that nothing else is there.
func TestGrammar(t *testing.T) {
	if got := jay.Grammar(); !sameGrammar(got, wanted()) {
		t.Errorf("%+v; want %+v", got, wanted())
	}
}

// TestGrammarNew: R3, P7, what is done to an answer, in its lists and behind them, no other one tells, nor Parse, nor Print.
func TestGrammarNew(t *testing.T) {
	first, second := jay.Grammar(), jay.Grammar()
	for _, l := range [][]string{first.Verbs, first.Adverbs, first.Behind} {
		for i := range l[:cap(l)] {
			l[:cap(l)][i] = "no sign"
		}
		_ = append(l, "a", "b")
	}
	first.Power, first.Open, first.Trains = "", "", false
	for _, g := range []api.Grammar{second, jay.Grammar()} {
		if !sameGrammar(g, wanted()) {
			t.Errorf("%+v", g)
		}
	}
	texts{{`a=:{{y}}|.1(+~"1-)b`, `a = mo(lam1(R) mo(|. dy(hook(adv"1(adv~(+)) -) 1 b)))`}}.check(t)
	pairs{{line("a", dy(verb("e."), num(1), mo(adverb(`"1`, verb("-")), name("b")))), `a =: 1 e. -"1 b`}}.check(t)
}

// TestListsApart: R3, the lists of one answer share no memory.
func TestListsApart(t *testing.T) {
	g := jay.Grammar()
	lists := [][]string{g.Verbs, g.Adverbs, g.Behind}
	for i, l := range lists {
		for j := range l[:cap(l)] {
			l[:cap(l)][j] = strings.Repeat("x", i+1)
		}
	}
	for i, l := range lists {
		for _, word := range l {
			if len(word) != i+1 {
				t.Errorf("list %d has words of another one", i)
			}
		}
	}
}

// everySign is each word of J that is a sign.
func everySign() []string {
	return strings.Fields(`-. |. |: <. <: >. >: ~. ~: ,: /: \: {. }. ^: - * | % + < > = ~ $ # , / \ { "1 i. e.`)
}

// TestSigns: 18.1, 18.2, which signs are functions, and which stand behind one: each of them, and no other.
func TestSigns(t *testing.T) {
	g := wanted()
	for _, s := range everySign() {
		if l, f := jlex.Lex(s); f != (api.Fault{}) || len(l) != 1 || l[0].Kind != api.TSign {
			t.Fatalf("%s is no sign", s)
		}
		isVerb, isAdverb := slices.Contains(g.Verbs, s), slices.Contains(g.Adverbs, s)
		for _, c := range []struct {
			is         bool
			text, want string
		}{
			{isVerb, s + " 1", "mo(" + s + " 1)"},
			{isVerb, "1 " + s + " 2", "dy(" + s + " 1 2)"},
			{isVerb, "'a'" + s + "'b'", "dy(" + s + " c97 c98)"},
			{isVerb, "(" + s + ")1", "mo(" + s + " 1)"},
			{isVerb, "1(" + s + ")2", "dy(" + s + " 1 2)"},
			{isVerb, "(" + s + " +)1", "mo(hook(" + s + " +) 1)"},
			{isVerb, "(+ " + s + ")1", "mo(hook(+ " + s + ") 1)"},
			{isVerb, "1(- + " + s + ")2", "dy(fork(- + " + s + ") 1 2)"},
			{isVerb, "1(- " + s + " +)2", "dy(fork(- " + s + " +) 1 2)"},
			{isVerb, "1(" + s + " - +)2", "dy(fork(" + s + " - +) 1 2)"},
			{isAdverb, "+" + s + " 1", "mo(adv" + s + "(+) 1)"},
			{isAdverb, "1+" + s + " 2", "dy(adv" + s + "(+) 1 2)"},
			{isAdverb, "{{y}}" + s + " 1", "mo(adv" + s + "(lam1(R)) 1)"},
			{isAdverb, "+^:2" + s + " 1", "mo(adv" + s + "(pow2(+)) 1)"},
			{isAdverb, "(+ -)" + s + " 1", "mo(adv" + s + "(hook(+ -)) 1)"},
			{isAdverb, "(+" + s + " -) 1", "mo(hook(adv" + s + "(+) -) 1)"},
		} {
			if got := bare(parsed(c.text)); (got == c.want) != c.is {
				t.Errorf("%s: %s; %s: %v", c.text, got, c.want, c.is)
			}
		}
		for _, text := range []string{s, "1" + s, "(" + s + ")", "{{" + s + "}}1", s + " " + s} {
			if got := parsed(text); !strings.HasPrefix(got, "syntax") {
				t.Errorf("%s: %s", text, got)
			}
		}
	}
}

// TestOnlyVerbs: 18.1, signs that are no functions are none, behind an operand either; what stands ahead of them is told.
func TestOnlyVerbs(t *testing.T) {
	texts{
		{"/1", "syntax at 0"},
		{`\1`, "syntax at 0"},
		{"~1", "syntax at 0"},
		{`"1 1`, "syntax at 0"},
		{"^:1", "syntax at 0"},
		{"1/2", "syntax at 1"},
		{`1\2`, "syntax at 1"},
		{"1~2", "syntax at 1"},
		{`1"1 2`, "syntax at 1"},
		{"1^:2", "syntax at 1"},
		{"1//2", "syntax at 1"},
		{"1 0/3 4", "syntax at 3"},
		{"(/)1", "syntax at 1"},
		{"1(/)2", "syntax at 1"},
		{"(/ +)1", "syntax at 1"},
		{"(+ / -)1", "mo(hook(adv/(+) -) 1)"},
		{"+^:1", "syntax at 4"},
		{"+^:_1 2", "syntax at 1"},
		{"+^:4097", "syntax at 1"},
		{"a+^:a b", "syntax at 2"},
		{"+^:(2)1", "syntax at 1"},
	}.check(t)
}

// TestWays: 18.1, what else J's grammar lets stand, and what not: it has trains, and neither Lone nor Square, no Behind and no Outer.
func TestWays(t *testing.T) {
	texts{
		{"(+/)1", "mo(adv/(+) 1)"},
		{"(+-)1", "mo(hook(+ -) 1)"},
		{"(+-*)1", "mo(fork(+ - *) 1)"},
		{"(+-*%)1", "syntax at 5"},
		{"(+-*%#)1", "syntax at 6"},
		{"(+-)", "syntax at 4"},
		{"1(+-)2", "dy(hook(+ -) 1 2)"},
		{"1(+-*)2", "dy(fork(+ - *) 1 2)"},
		{"1(+-*%)2", "syntax at 1"},
		{"((+-)*)1", "mo(hook(hook(+ -) *) 1)"},
		{"((+-*)%(#,))1", "mo(fork(fork(+ - *) % hook(# ,)) 1)"},
		{"(+/ * #) 1 2 3", "mo(fork(adv/(+) * #) [1 2 3])"},
		{"(+/ * #)~1", "mo(adv~(fork(adv/(+) * #)) 1)"},
		{"({{y}} {{x+y}})1", "mo(hook(lam1(R) lam2(dy(+ L R))) 1)"},
		{"(+^:2 -)1", "mo(hook(pow2(+) -) 1)"},
		{"(1 -)2", "syntax at 4"},
		{"(- 1)2", "syntax at 5"},
		{"(a -)2", "syntax at 4"},
		{"3{{x}}/5", "syntax at 1"},
		{"{{x}}5", "syntax at 0"},
		{"{{y}}5", "mo(lam1(R) 5)"},
		{"1{{x-y}}5", "dy(lam2(dy(- L R)) 1 5)"},
		{"{{1}}5", "mo(lam1(1) 5)"},
		{"3{{y}}/5", "dy(adv/(lam1(R)) 3 5)"},
		{"({{y*2}}^:3)1", "mo(pow3(lam1(dy(* R 2))) 1)"},
		{"{{y*2}}^:3 a", "mo(pow3(lam1(dy(* R 2))) a)"},
		{"{{{.y}}1", "mo(lam1(mo({. R)) 1)"},
		{"{{ {y}}1", "mo(lam1(mo({ R)) 1)"},
		{"+^:0 a", "mo(pow0(+) a)"},
		{"+^:4096 a", "mo(pow4096(+) a)"},
		{"i.5", "mo(i. 5)"},
		{"1 e.2", "dy(e. 1 2)"},
		{"*/1+i.5", "mo(adv/(*) dy(+ 1 mo(i. 5)))"},
		{"_5 'it''s'", "syntax at 3"},
		{"'it''s'#1", "dy(# [c105 c116 c39 c115] 1)"},
		{"_5", "-5"},
		{"-5", "mo(- 5)"},
		{"''", "[]"},
		{"y", "syntax at 0"},
		{"x+1", "syntax at 0"},
		{"1+y", "syntax at 2"},
		{"{{y}}y", "syntax at 5"},
		{"a[1]", "syntax at 1"},
		{"{y}1", "syntax at 2"},
		{"(a", "syntax at 2"},
		{"a)", "syntax at 1"},
		{"{{y", "syntax at 0"},
		{"}}", "syntax at 0"},
		{"{{y)1", "syntax at 3"},
	}.check(t)
}
