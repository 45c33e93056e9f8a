package aeval_test

import (
	"math/rand"
	"regexp"
	"strconv"
	"testing"

	"triglyph/aeval"
	"triglyph/api"
	"triglyph/apl"
)

// chance makes texts of programs by chance, such as often come to a value.
type chance struct{ *rand.Rand }

// pick is one of some texts.
func (r chance) pick(l ...string) string { return l[r.Intn(len(l))] }

// leaf is an expression without parts, in a text that has such arguments.
func (r chance) leaf(arguments []string) string {
	if len(arguments) > 0 && r.Intn(2) == 0 {
		return r.pick(arguments...)
	}
	if r.Intn(20) == 0 {
		return r.pick("none", "wrong", "c", "rows", "cols", "deep", "'ab'", "''", "'a'", "¯9223372036854775808")
	}
	return r.pick("0", "1", "2", "3", "¯1", "1 0", "2 3 1", "2 1", "a", "b", "tab")
}

// expression is one with so many calls within one another at most.
func (r chance) expression(deep int, arguments ...string) string {
	if deep <= 0 || r.Intn(6) == 0 {
		return r.leaf(arguments)
	}
	switch r.Intn(9) {
	case 0:
		return "(" + r.expression(deep-1, arguments...) + ")[" + r.expression(deep-2, arguments...) + "]"
	case 1, 2, 3:
		return r.one(deep-1) + " " + r.expression(deep-1, arguments...)
	}
	return "(" + r.expression(deep-1, arguments...) + ")" + r.two(deep-1) + " " + r.expression(deep-1, arguments...)
}

// scalar is a sign that goes cell by cell; between is a function for between items, or what nearly is one.
func (r chance) scalar() string { return r.pick(cellwise()...) }

func (r chance) between() string {
	switch r.Intn(10) {
	case 0:
		return r.pick("⍴", ",", "÷", "~", "{⍵}", "{⍺+⍵}", "+⍨⍨", "+/", "(-⍣1)", "⌷")
	case 1, 2, 3, 4:
		return r.scalar() + "⍨"
	}
	return r.scalar()
}

// text is a function's text: of one argument, of both.
func (r chance) text(deep int) string { return "{" + r.expression(deep, "⍵") + "}" }

func (r chance) both(deep int) string {
	ends := "(⍺" + r.pick("-", ",", "⍪", "⍴") + "⍵)" + r.pick(",", "+", "⍪", "≥")
	return "{" + ends + r.expression(deep, "⍺", "⍵") + "}"
}

// one is a function of one argument.
func (r chance) one(deep int) string {
	switch r.Intn(12) {
	case 0, 1:
		return r.text(deep)
	case 2, 3:
		return r.between() + r.pick("/", "⌿", "\\", "⍀")
	case 4:
		return r.turnable(deep) + "⍨"
	case 5, 6:
		return "(" + r.one(deep-1) + "⍣" + r.pick("0", "1", "2", "5") + ")"
	case 7:
		return r.pick(apl.Grammar().Verbs...)
	}
	return r.pick("-", "×", "|", "⍳", "⍴", "≢", ",", "⊖", "⌽", "⍉", "⍋", "⍒", "∪", "⊂", "⊃")
}

// turnable is a function of two that does not look up places.
func (r chance) turnable(deep int) string {
	switch r.Intn(5) {
	case 0:
		return r.both(deep)
	case 1:
		return r.pick("⍴", "↑", "↓", "⊖", "⌽", "⍪", ",", "⍳", "∊", "÷")
	}
	return r.scalar()
}

// two is a function of two arguments.
func (r chance) two(deep int) string {
	switch r.Intn(9) {
	case 0:
		return "∘.(" + r.between() + ")"
	case 1:
		return r.turnable(deep) + "⍨"
	case 2:
		return r.pick("⌷", ",", "⍪", "⍴", "⌷⍨", "/⍨", "⌿⍨")
	case 3:
		return r.pick(append(apl.Grammar().Verbs, "/", "⌿")...)
	}
	return r.turnable(deep)
}

// program is a text from 0 or from 1, with a name that is set or none.
func (r chance) program() string {
	return r.pick("", "", fromNought, "⎕IO←1⋄") + r.pick("", "", "", "a←", "k1←") + r.expression(1+r.Intn(5))
}

// expectAll holds a program against its history, with each fuel and each room at which something may change; it tells what it came to. False, if that takes too long.
func expectAll(t *testing.T, r chance, p api.Program, tries int) (api.Errno, bool) {
	h, ok := historyOf(names(), p)
	if !ok {
		return api.OK, false
	}
	rooms, steps := h.rooms(), h.steps()
	for _, room := range rooms {
		expectHistory(t, h, p, steps, room)
		expectHistory(t, h, p, r.Intn(steps+1), room)
	}
	for fuel := -1; fuel < min(steps, tries); fuel++ {
		expectHistory(t, h, p, fuel, rooms[r.Intn(len(rooms))])
	}
	for _, fuel := range []int{steps - 1, steps, steps + 1, most} {
		expectHistory(t, h, p, fuel, most)
	}
	return h.err, true
}

// TestChance: 20.1 to 20.5, programs by chance, held against their histories.
func TestChance(t *testing.T) {
	t.Parallel()
	r := chance{rand.New(rand.NewSource(20))}
	counts := map[api.Errno]int{}
	for range 3000 {
		p := read(t, r.program())
		if e, ok := expectAll(t, r, p, 20); ok {
			counts[e]++
		}
	}
	for _, e := range []api.Errno{api.OK, api.ErrArg, api.ErrValue, api.ErrDomain, api.ErrRank, api.ErrLength, api.ErrIndex, api.ErrNonce} {
		if counts[e] < 20 {
			t.Errorf("too few programs come to %v: %v", e, counts)
		}
	}
	if counts[api.OK] < 900 {
		t.Errorf("too few programs come to a value: %v", counts)
	}
}

// TestCasesAsHistories: 20.1 to 20.5, the written-out programs, likewise.
func TestCasesAsHistories(t *testing.T) {
	t.Parallel()
	r := chance{rand.New(rand.NewSource(201))}
	for _, c := range append(allCases(), sharers()...) {
		expectAll(t, r, read(t, c.text), 60)
	}
}

// TestMore: 20.5, P5, what came with some fuel and room, but for want of these, comes with more of both, in as many steps; and no more steps are taken than there is fuel, nor is there an answer of more cells than there is room for.
func TestMore(t *testing.T) {
	t.Parallel()
	env := names()
	for _, c := range append(allCases(), sharers()...) {
		p := read(t, c.text)
		fuels := []int{-1, 0, 1, c.steps - 1, c.steps, c.steps * 2, most}
		rooms := []int{-1, 0, 1, 2, 3, 4, 6, 9, full, most}
		for _, fuel := range fuels {
			for _, room := range rooms {
				got, used, e := aeval.Eval(env, p, fuel, room)
				if used > max(fuel, 0) || cellsOf(got) > max(room, 0) {
					t.Fatalf("%s: fuel %d, room %d: %d steps, %d cells", c.text, fuel, room, used, cellsOf(got))
				}
				if e == api.ErrFuel || e == api.ErrCells {
					continue
				}
				for _, more := range [][2]int{{fuel, most}, {most, room}, {max(fuel, c.steps), max(room, full)}, {most, most}} {
					again, usedAgain, eAgain := aeval.Eval(env, p, more[0], more[1])
					if !alike(again, got) || usedAgain != used || eAgain != e {
						t.Fatalf("%s: fuel %d, room %d: %v, %d, %v; with more (%d, %d): %v, %d, %v", c.text, fuel, room, short(got), used, e, more[0], more[1], short(again), usedAgain, eAgain)
					}
				}
			}
		}
	}
}

// great are numbers that could lay more boxes than there is memory for, since a history has no bound.
var great = regexp.MustCompile(`[0-9]{3}`)

// FuzzHistory: 20.1 to 20.5, texts of programs held against their histories.
func FuzzHistory(f *testing.F) {
	for _, c := range allCases() {
		f.Add(c.text, 5, 5)
	}
	f.Fuzz(func(t *testing.T, s string, fuel, room int) {
		p, fault := apl.Parse(s)
		if fault != (api.Fault{}) || great.MatchString(s) || printed(p) == "no text" {
			return
		}
		h, ok := historyOf(names(), p)
		if !ok {
			return
		}
		expectHistory(t, h, p, fuel, room)
		expectHistory(t, h, p, fuel%64, room%64)
		expectHistory(t, h, p, most, most)
	})
}

// TestSet: 20.4, which name is set plays no part.
func TestSet(t *testing.T) {
	for _, c := range append(allCases(), evalCase{"a+k", none, 2, api.ErrValue}) {
		for _, set := range []string{"", "a", "k", "none", "abcdefg1"} {
			p := read(t, c.text)
			p.Set = set
			env := names()
			was := copyEnv(env)
			expectProgram(t, set+"←"+c.text, env, p, c, c.steps, most)
			if !alikeEnv(env, was) {
				t.Errorf("%s←%s: the names were changed", set, c.text)
			}
		}
	}
	expectOnce(t, names(), evalCase{"a←5", num(5), 1, 0}, 1, 1)
	expectOnce(t, names(), evalCase{"⎕IO←0⋄k ← ⍳a[1]", nums(0, 1), 6, 0}, 9, 9)
}

// TestPlace: 20.4, where nodes begin plays no part.
func TestPlace(t *testing.T) {
	for i, c := range allCases() {
		p := read(t, c.text)
		every(&p.Expr, func(n *api.Node) { n.At = i*7 - 20 })
		expectProgram(t, strconv.Itoa(i)+" "+c.text, names(), p, c, c.steps, most)
	}
}
