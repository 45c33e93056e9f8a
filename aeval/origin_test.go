package aeval_test

import (
	"math"
	"strings"
	"testing"

	"triglyph/aeval"
	"triglyph/api"
	"triglyph/apl"
	"triglyph/arr"
	"triglyph/atomic"
)

// fromNought is what says that a text counts from 0.
const fromNought = "⎕IO←0⋄"

// originCases are what is counted, and what is not, from 1 and from 0.
func originCases() []evalCase {
	return []evalCase{
		{"⍳4", nums(1, 2, 3, 4), 3, 0},
		{"⎕IO←1⋄⍳4", nums(1, 2, 3, 4), 3, 0},
		{fromNought + "⍳4", nums(0, 1, 2, 3), 3, 0},
		{"⍳0", nums(), 3, 0},
		{fromNought + "⍳0", nums(), 3, 0},
		{"⍳¯1", none, 3, api.ErrDomain},
		{fromNought + "⍳¯1", none, 3, api.ErrDomain},
		{"⍋3 1 2 1", nums(2, 4, 3, 1), 3, 0},
		{fromNought + "⍋3 1 2 1", nums(1, 3, 2, 0), 3, 0},
		{"⍒3 1 2 1", nums(1, 3, 2, 4), 3, 0},
		{fromNought + "⍒3 1 2 1", nums(0, 2, 1, 3), 3, 0},
		{"⍋c", nums(1, 2, 3), 3, 0},
		{"⍋2", none, 3, api.ErrRank},
		{fromNought + "⍒b", none, 3, api.ErrDomain},
		{"3 1 2 1⍳1 9", nums(2, 5), 4, 0},
		{fromNought + "3 1 2 1⍳1 9", nums(1, 4), 4, 0},
		{"a⍳tab", of([]int{2, 3}, 1, 2, 3, 4, 4, 4), 4, 0},
		{fromNought + "a⍳tab", of([]int{2, 3}, 0, 1, 2, 3, 3, 3), 4, 0},
		{"1⍳1", none, 4, api.ErrRank},
		{fromNought + "tab⍳1", none, 4, api.ErrRank},
		{"≢a", num(3), 3, 0},
		{fromNought + "≢a", num(3), 3, 0},
		{"2↑a", nums(1, 2), 4, 0},
		{fromNought + "2↑a", nums(1, 2), 4, 0},
		{"1⌽a", nums(2, 3, 1), 4, 0},
		{fromNought + "1⌽a", nums(2, 3, 1), 4, 0},
		{"a∊1", nums(1, 0, 0), 4, 0},
		{fromNought + "a∊1", nums(1, 0, 0), 4, 0},
		{"∪3 1 3", nums(3, 1), 3, 0},
		{fromNought + "∪3 1 3", nums(3, 1), 3, 0},
		{"⍴tab", nums(2, 3), 3, 0},
		{fromNought + "({⍵+⍵}⍣2)1", num(4), 3 + 2*5, 0},
		{fromNought + "{⍳⍵}3", nums(0, 1, 2), 6, 0},
		{"{⍳⍵}3", nums(1, 2, 3), 6, 0},
		{"(⍳⍨)3 1", nums(1, 2), 4, 0},
		{fromNought + "(⍳⍨)3 1", nums(0, 1), 4, 0},
		{fromNought + "3 1⍳⍨1 1 3", nums(2, 0), 5, 0},
		{"a[⍋a]", nums(1, 2, 3), 6, 0},
		{fromNought + "a[⍋a]", nums(1, 2, 3), 6, 0},
	}
}

// indexCase is what stands in brackets behind the name a, or ahead of ⌷; what a has; and what comes of both, counted from 1, from 0.
type indexCase struct {
	what     string
	x, which api.Arr
	from1    api.Arr
	err1     api.Errno
	from0    api.Arr
	err0     api.Errno
}

// itemCases are of lists: they come to the same in brackets and by ⌷.
func itemCases() []indexCase {
	x, big, small := nums(10, 20, 30), num(math.MaxInt64), num(math.MinInt64)
	return []indexCase{
		{"the first", x, num(1), num(10), 0, num(20), 0},
		{"the last from 1", x, num(3), num(30), 0, none, api.ErrIndex},
		{"one more", x, num(4), none, api.ErrIndex, none, api.ErrIndex},
		{"0", x, num(0), none, api.ErrIndex, num(10), 0},
		{"-1", x, num(-1), none, api.ErrIndex, none, api.ErrIndex},
		{"the greatest", x, big, none, api.ErrIndex, none, api.ErrIndex},
		{"the least", x, small, none, api.ErrOverflow, none, api.ErrIndex},
		{"the least but one", x, num(math.MinInt64 + 1), none, api.ErrIndex, none, api.ErrIndex},
		{"the least behind one that is not there", x, list(number(9), small.Cells[0]), none, api.ErrOverflow, none, api.ErrIndex},
		{"several", x, nums(2, 1, 2), nums(20, 10, 20), 0, nums(30, 20, 30), 0},
		{"one of a list", x, nums(2), nums(20), 0, nums(30), 0},
		{"none", x, nums(), nums(), 0, nums(), 0},
		{"no signs", x, text(""), nums(), 0, nums(), 0},
		{"several, one not there", x, nums(2, 3, 1), nums(20, 30, 10), 0, none, api.ErrIndex},
		{"several, one not there from 1", x, nums(2, 0, 1), none, api.ErrIndex, nums(30, 10, 20), 0},
		{"a table", x, of([]int{2, 2}, 1, 2, 2, 1), of([]int{2, 2}, 10, 20, 20, 10), 0, of([]int{2, 2}, 20, 30, 30, 20), 0},
		{"as many axes as may be", x, of([]int{1, 1, 1, 1, 1, 1, 1, 1}, 1), of([]int{1, 1, 1, 1, 1, 1, 1, 1}, 10), 0, of([]int{1, 1, 1, 1, 1, 1, 1, 1}, 20), 0},
		{"no rows", x, with([]int{0, 3}), with([]int{0, 3}), 0, with([]int{0, 3}), 0},
		{"a sign", x, atom(sign(97)), none, api.ErrDomain, none, api.ErrDomain},
		{"a sign behind a number that is not there", x, list(number(9), sign(97)), none, api.ErrDomain, none, api.ErrIndex},
		{"a sign behind a number", x, list(number(1), sign(97)), none, api.ErrDomain, none, api.ErrDomain},
		{"a box", x, atom(box(num(1))), none, api.ErrDomain, none, api.ErrDomain},
		{"of signs", text("abc"), num(2), atom(sign(98)), 0, atom(sign(99)), 0},
		{"of boxes", bothKinds(), nums(1, 1), list(box(nums(1, 2)), box(nums(1, 2))), 0, nums(1, 1), 0},
		{"of none", nums(), num(1), none, api.ErrIndex, none, api.ErrIndex},
		{"of none, none", nums(), nums(), nums(), 0, nums(), 0},
	}
}

// lookedUpCases are of what is no list, by ⌷; in brackets all of them are ErrRank.
func lookedUpCases() []indexCase {
	return []indexCase{
		{"an atom", num(5), num(1), none, api.ErrRank, none, api.ErrRank},
		{"an atom, and a sign", num(5), atom(sign(97)), none, api.ErrDomain, none, api.ErrRank},
		{"an atom, and the least", num(5), num(math.MinInt64), none, api.ErrOverflow, none, api.ErrRank},
		{"a box", atom(box(nums(1, 2))), num(1), none, api.ErrRank, none, api.ErrRank},
		{"a row", table(), num(1), nums(1, 2, 3), 0, nums(4, 5, 6), 0},
		{"rows", table(), nums(2, 1), of([]int{2, 3}, 4, 5, 6, 1, 2, 3), 0, none, api.ErrIndex},
		{"a row that is not there", table(), num(0), none, api.ErrIndex, nums(1, 2, 3), 0},
		{"a table of rows", table(), of([]int{1, 1}, 1), of([]int{1, 1, 3}, 1, 2, 3), 0, of([]int{1, 1, 3}, 4, 5, 6), 0},
		{"more axes than may be", table(), of([]int{1, 1, 1, 1, 1, 1, 1, 1}, 1), none, api.ErrRank, none, api.ErrRank},
		{"no rows", table(), nums(), with([]int{0, 3}), 0, with([]int{0, 3}), 0},
		{"of no columns", with([]int{2, 0}), nums(1, 1, 1), with([]int{3, 0}), 0, with([]int{3, 0}), 0},
	}
}

// expectBoth holds a text, from 1 and from 0, against what is asked for.
func expectBoth(t *testing.T, env api.Env, s string, c indexCase, steps int) {
	t.Helper()
	expectEval(t, env, evalCase{s, c.from1, steps, c.err1})
	expectEval(t, env, evalCase{fromNought + s, c.from0, steps, c.err0})
}

// TestItems: 20.1, 20.3, items of lists in brackets and by ⌷, and of what is no list.
func TestItems(t *testing.T) {
	for _, c := range itemCases() {
		expectBoth(t, two(c.x, c.which), "a[b]", c, 4)
		expectBoth(t, two(c.x, c.which), "b⌷a", c, 4)
		expectBoth(t, two(c.x, c.which), "a⌷⍨b", c, 5)
	}
	for _, c := range lookedUpCases() {
		expectBoth(t, two(c.x, c.which), "b⌷a", c, 4)
		refused := indexCase{err1: api.ErrRank, err0: api.ErrRank}
		expectBoth(t, two(c.x, c.which), "a[b]", refused, 4)
	}
}

// TestOrigin: 20.2, 20.3, what is counted from 0 and from 1.
func TestOrigin(t *testing.T) { expectCases(t, originCases()) }

// TestCounted: 20.5, counted from 1 all is one more than counted from 0; what is no place is the same; and the places that are one more are the same items.
func TestCounted(t *testing.T) {
	t.Parallel()
	counted := map[string]bool{"⍳a": true, "⍋a": true, "⍒a": true, "a⍳b": true}
	texts := strings.Fields("⍳a ⍋a ⍒a a⍳b ∪a ≢a ⍴a ⊖a a∊b a↑b a↓b a⍴b a⌽b a,b a/b +/a +\\a a∘.-b")
	for _, a := range arrays() {
		for _, b := range arrays() {
			for _, s := range texts {
				expectMore(t, two(a, b), s, counted[s])
			}
			expectSameItems(t, a, b)
		}
	}
}

// expectMore: from 1 a text comes to what it comes to from 0, and, if that is counted, one more.
func expectMore(t *testing.T, env api.Env, s string, counted bool) {
	t.Helper()
	want, steps, wantErr := aeval.Eval(env, read(t, fromNought+s), 99, most)
	if counted && wantErr == api.OK {
		want, _ = atomic.Dy(api.Add, want, num(1))
	}
	got, used, e := aeval.Eval(env, read(t, s), 99, most)
	if !alike(got, want) || used != steps || e != wantErr {
		t.Errorf("%s: %v, %v; want %v, %v", s, short(got), e, short(want), wantErr)
	}
}

// expectSameItems: what b says of a from 1 is what one less says of it from 0.
func expectSameItems(t *testing.T, a, b api.Arr) {
	t.Helper()
	less, e := atomic.Dy(api.Sub, b, num(1))
	if e != api.OK {
		return
	}
	for _, s := range []string{"a[b]", "b⌷a"} {
		want, steps, wantErr := aeval.Eval(two(a, less), read(t, fromNought+s), 99, most)
		got, used, e := aeval.Eval(two(a, b), read(t, s), 99, most)
		if !arr.Same(got, want) || used != steps || e != wantErr {
			t.Errorf("%s of %v and %v: %v, %v; want %v, %v", s, short(a), short(b), short(got), e, short(want), wantErr)
		}
	}
}

// TestEachSign: 20.2, 20.3, each of APL's signs as a function of one argument and of two, those that are none among them, of all kinds of arrays, from 0 and from 1.
func TestEachSign(t *testing.T) {
	t.Parallel()
	for _, sign := range append(apl.Grammar().Verbs, apl.Grammar().Behind...) {
		values := 0
		for _, head := range []string{"", fromNought} {
			if !strings.Contains("/⌿", sign) {
				values += expectSign(t, head+sign+"a", 3)
			}
			values += expectSign(t, head+"a"+sign+"b", 4)
			expectSign(t, head+"a"+sign+"⍨b", 5)
		}
		// ÷ alone comes to no value.
		if values == 0 != (sign == "÷") {
			t.Errorf("%s: %d values", sign, values)
		}
	}
}

// expectSign holds a text of one sign against its history, of all arrays with all; it tells how often that came to a value.
func expectSign(t *testing.T, s string, steps int) int {
	t.Helper()
	p, values := read(t, s), 0
	for _, a := range arrays() {
		for _, b := range arrays() {
			h, ok := historyOf(two(a, b), p)
			if !ok || h.steps() != steps {
				t.Fatalf("%s: the test's own history is wrong", s)
			}
			if expectHistory(t, h, p, most, most); h.err == api.OK {
				values++
			}
			if !strings.Contains(s, "b") {
				break
			}
		}
	}
	return values
}

// TestNoSign: 20.2, 20.3, the signs that are no function of so many arguments, and of those that are, how many.
func TestNoSign(t *testing.T) {
	ofOne, ofTwo := "-×|~⍳⍴≢,⊖⌽⍉⊂⊃⍋⍒∪", "+-×⌊⌈|=≠<>≤≥⍴↑↓⊖⌽⍪,⌿/⍳∊⌷"
	some := arrays()
	for _, sign := range apl.Grammar().Verbs {
		came := 0
		for _, a := range some {
			if _, _, e := aeval.Eval(one(a), read(t, sign+"a"), 9, most); e != api.ErrNonce {
				came++
			}
		}
		if is := strings.Contains(ofOne, sign); came != map[bool]int{true: len(some)}[is] {
			t.Errorf("%s of one: %d times not ErrNonce", sign, came)
		}
	}
	for _, sign := range append(apl.Grammar().Verbs, apl.Grammar().Behind...) {
		came := 0
		for _, a := range some {
			if _, _, e := aeval.Eval(two(a, a), read(t, "a"+sign+"b"), 9, most); e != api.ErrNonce {
				came++
			}
		}
		if is := strings.Contains(ofTwo, sign); came != map[bool]int{true: len(some)}[is] {
			t.Errorf("%s of two: %d times not ErrNonce", sign, came)
		}
	}
}
