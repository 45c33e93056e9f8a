package apl_test

import (
	"reflect"
	"slices"
	"strings"
	"testing"

	"triglyph/alex"
	"triglyph/api"
	"triglyph/apl"
)

// sorted is a list in order.
func sorted(l []string) []string { return slices.Sorted(slices.Values(l)) }

// sameGrammar tells whether two grammars are the same, in whatever order their Verbs are.
func sameGrammar(a, b api.Grammar) bool {
	a.Verbs, b.Verbs = sorted(a.Verbs), sorted(b.Verbs)
	return reflect.DeepEqual(a, b)
}

// TestGrammar: 17.1, each word and list, and that nothing else is there.
func TestGrammar(t *testing.T) {
	if got := apl.Grammar(); !sameGrammar(got, wanted()) {
		t.Errorf("%+v; want %+v", got, wanted())
	}
}

// TestGrammarNew: R3, P7, what is done to an answer, in its lists and behind them, no other one tells, nor Parse, nor Print.
func TestGrammarNew(t *testing.T) {
	first, second := apl.Grammar(), apl.Grammar()
	for _, l := range [][]string{first.Verbs, first.Adverbs, first.Behind} {
		for i := range l[:cap(l)] {
			l[:cap(l)][i] = "no sign"
		}
		_ = append(l, "a", "b")
	}
	first.Outer, first.Open, first.Square = "", "", false
	for _, g := range []api.Grammar{second, apl.Grammar()} {
		if !sameGrammar(g, wanted()) {
			t.Errorf("%+v", g)
		}
	}
	texts{{"a←{⍵}⌽1⌿∘.+⍨b[1]", "1: a = mo(lam1(R) mo(⌽ dy(⌿ 1 mo(adv⍨(outer(+)) index(b 1)))))"}}.check(t)
	pairs{{line("a", 1, dy(verb("⌿"), num(1), mo(adverb("⍨", verb("-")), index(name("b"), num(1))))), "a ← 1 ⌿ -⍨ b [ 1 ]"}}.check(t)
}

// TestListsApart: R3, the lists of one answer share no memory.
func TestListsApart(t *testing.T) {
	g := apl.Grammar()
	lists := [][]string{g.Verbs, g.Adverbs, g.Behind}
	for i, l := range lists {
		for j := range l[:cap(l)] {
			l[:cap(l)][j] = strings.Repeat("x", i+1)
		}
	}
	for i, l := range lists {
		for _, word := range l {
			if len(word) != i+1 {
				t.Errorf("list %d has words of another one", i)
			}
		}
	}
}

// everySign is each word of APL that is a sign.
func everySign() []string {
	return strings.Fields(`+ - × | ~ ⍳ ⍴ ≢ , ⊖ ⌽ ⍉ ⍋ ⍒ ∪ ⊂ ⊃ ÷ ⌊ ⌈ = ≠ < > ≤ ≥ ↑ ↓ ⍪ ∊ ⌿ / \ ⍀ ⌷ ⍨ ⍣ ⋄ ∘.`)
}

// TestSigns: 17.1, 17.2, which signs are functions, which stand behind one, which are functions behind an operand: each of them, and no other.
func TestSigns(t *testing.T) {
	g := wanted()
	for _, s := range everySign() {
		if l, f := alex.Lex(s); f != (api.Fault{}) || len(l) != 1 || l[0].Kind != api.TSign {
			t.Fatalf("%s is no sign", s)
		}
		isVerb, isAdverb := slices.Contains(g.Verbs, s), slices.Contains(g.Adverbs, s)
		isBehind := isVerb || slices.Contains(g.Behind, s)
		for _, c := range []struct {
			is         bool
			text, want string
		}{
			{isVerb, s + " 1", "1: mo(" + s + " 1)"},
			{isBehind, "1 " + s + " 2", "1: dy(" + s + " 1 2)"},
			{isBehind, "a" + s + "b", "1: dy(" + s + " a b)"},
			{isVerb, "(" + s + ")1", "1: mo(" + s + " 1)"},
			{isBehind, "1(" + s + ")2", "1: dy(" + s + " 1 2)"},
			{isVerb, "1∘." + s + "2", "1: dy(outer(" + s + ") 1 2)"},
			{isAdverb, "+" + s + "1", "1: mo(adv" + s + "(+) 1)"},
			{isAdverb, "1+" + s + "2", "1: dy(adv" + s + "(+) 1 2)"},
			{isAdverb, "{⍵}" + s + "1", "1: mo(adv" + s + "(lam1(R)) 1)"},
			{isAdverb, "+⍣2" + s + "1", "1: mo(adv" + s + "(pow2(+)) 1)"},
			{isAdverb, "1∘.+" + s + "2", "1: dy(adv" + s + "(outer(+)) 1 2)"},
		} {
			if got := bare(parsed(c.text)); (got == c.want) != c.is {
				t.Errorf("%s: %s; %s: %v", c.text, got, c.want, c.is)
			}
		}
		for _, text := range []string{s, "1" + s, "(" + s + ")", "{" + s + "}1", s + s} {
			if got := parsed(text); !strings.HasPrefix(got, "syntax") {
				t.Errorf("%s: %s", text, got)
			}
		}
	}
}

// TestOnlyVerbs: 17.1, signs that are no functions are none; what stands ahead of them is told.
func TestOnlyVerbs(t *testing.T) {
	texts{
		{"/1", "syntax at 0"},
		{"⌿1", "syntax at 0"},
		{`\1`, "syntax at 0"},
		{"⍀1", "syntax at 0"},
		{"⍨1", "syntax at 0"},
		{"⍣1", "syntax at 0"},
		{"⋄1", "syntax at 0"},
		{"∘.1", "syntax at 0"},
		{`1\2`, "syntax at 1"},
		{"1⍀2", "syntax at 1"},
		{"1⍨2", "syntax at 1"},
		{"1⍣2", "syntax at 1"},
		{"1⋄2", "syntax at 1"},
		{"1∘.2", "syntax at 1"},
		{"1∘./2", "syntax at 1"},
		{"1∘.⌿2", "syntax at 1"},
		{"(/)1", "syntax at 1"},
		{"+⍣1", "syntax at 5"},
		{"+⍣¯1 2", "syntax at 1"},
		{"+⍣4097", "syntax at 1"},
		{"a+⍣a b", "syntax at 2"},
	}.check(t)
}

// TestWays: 17.1, what else APL's grammar lets stand, and what not.
func TestWays(t *testing.T) {
	texts{
		{"a[1]", "1: index(a 1)"},
		{"1 2[b][1+c]", "1: index(index([1 2] b) dy(+ 1 c))"},
		{"(+/)1", "1: mo(adv/(+) 1)"},
		{"(+-)1", "syntax at 3"},
		{"(+-×)1", "syntax at 5"},
		{"1(+-)2", "syntax at 1"},
		{"3{⍺}/5", "syntax at 1"},
		{"{⍺}5", "syntax at 0"},
		{"{⍵}5", "1: mo(lam1(R) 5)"},
		{"1{⍺-⍵}5", "1: dy(lam2(dy(- L R)) 1 5)"},
		{"{1}5", "1: mo(lam1(1) 5)"},
		{"3{⍵}/5", "1: dy(adv/(lam1(R)) 3 5)"},
		{"({⍵×2}⍣3)1", "1: mo(pow3(lam1(dy(× R 2))) 1)"},
		{"+⍣0 a", "1: mo(pow0(+) a)"},
		{"+⍣4096 a", "1: mo(pow4096(+) a)"},
		{"1 2∘.×3 4", "1: dy(outer(×) [1 2] [3 4])"},
		{"∘.+⍨1", "1: mo(adv⍨(outer(+)) 1)"},
		{"1 0/3 4", "1: dy(/ [1 0] [3 4])"},
		{"1//2", "1: dy(adv/(/) 1 2)"},
		{"×/⍳5", "1: mo(adv/(×) mo(⍳ 5))"},
		{"¯5 'it''s'", "syntax at 4"},
		{"'it''s'≡1", "syntax at 7"},
		{"'it''s'≢1", "1: dy(≢ [c105 c116 c39 c115] 1)"},
		{"¯5", "1: -5"},
		{"''", "1: []"},
		{"⍵", "syntax at 0"},
		{"⍺+1", "syntax at 0"},
		{"1+⍵", "syntax at 2"},
		{"⎕IO", "syntax at 5"},
	}.check(t)
}
