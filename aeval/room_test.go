package aeval_test

import (
	"math"
	"runtime"
	"strconv"
	"strings"
	"testing"

	"triglyph/aeval"
	"triglyph/api"
)

// nameCase is names, one of them asked for, and what comes of it in a step.
type nameCase struct {
	what string
	env  api.Env
	name string
	want api.Arr
	err  api.Errno
}

// nameCases are names with values and without.
func nameCases() []nameCase {
	one, two, three := nums(1, 1), nums(2, 2), nums(3, 3)
	wrong := with([]int{2}, number(1))
	env := func(vals []api.Arr, names ...string) api.Env { return api.Env{Names: names, Vals: vals} }
	return []nameCase{
		{"no names", api.Env{}, "a", none, api.ErrValue},
		{"no names, but a value", env([]api.Arr{one}), "a", none, api.ErrValue},
		{"another name", env([]api.Arr{one}, "b"), "a", none, api.ErrValue},
		{"one", env([]api.Arr{one}, "a"), "a", one, 0},
		{"the first", env([]api.Arr{one, two, three}, "a", "b", "c"), "a", one, 0},
		{"the second", env([]api.Arr{one, two, three}, "a", "b", "c"), "b", two, 0},
		{"the last", env([]api.Arr{one, two, three}, "a", "b", "c"), "c", three, 0},
		{"not in order", env([]api.Arr{one, two, three}, "c", "a", "b"), "a", two, 0},
		{"a beginning of another", env([]api.Arr{one, two}, "ab", "a"), "a", two, 0},
		{"longer than another", env([]api.Arr{one, two}, "a", "ab"), "ab", two, 0},
		{"as long as may be", env([]api.Arr{one, two}, "a", "abcdefg1"), "abcdefg1", two, 0},
		{"great letters are others", env([]api.Arr{one}, "A"), "a", none, api.ErrValue},
		{"a name that may not be is passed over", env([]api.Arr{one, two, three}, "", "x⍵", "a"), "a", three, 0},
		{"twice", env([]api.Arr{one, two}, "a", "a"), "a", one, 0},
		{"twice, behind another", env([]api.Arr{one, two, three}, "b", "a", "a"), "a", two, 0},
		{"twice, the first may not be", env([]api.Arr{wrong, two}, "a", "a"), "a", none, api.ErrArg},
		{"twice, the second may not be", env([]api.Arr{one, wrong}, "a", "a"), "a", one, 0},
		{"twice, the second without a value", env([]api.Arr{one}, "a", "a"), "a", one, 0},
		{"no value at its place", env(nil, "a"), "a", none, api.ErrValue},
		{"no value at its place, behind one with a value", env([]api.Arr{one}, "b", "a"), "a", none, api.ErrValue},
		{"twice, none with a value", env([]api.Arr{one}, "b", "a", "a"), "a", none, api.ErrValue},
		{"more values than names", env([]api.Arr{one, two}, "a"), "a", one, 0},
		{"a value that may not be", env([]api.Arr{wrong}, "a"), "a", none, api.ErrArg},
		{"another's value may not be", env([]api.Arr{wrong, two}, "a", "b"), "b", two, 0},
		{"no rows", env([]api.Arr{with([]int{0, 3})}, "a"), "a", with([]int{0, 3}), 0},
	}
}

// TestNames: 20.1, what names have.
func TestNames(t *testing.T) {
	for _, c := range nameCases() {
		steps := map[bool]int{true: 4, false: 2}[c.err == 0]
		expectEval(t, c.env, evalCase{c.name, c.want, 1, c.err})
		expectEval(t, c.env, evalCase{"{⍵}" + c.name, c.want, steps, c.err})
	}
}

// TestWrongValues: 20.1, a value that may not be is ErrArg, whatever is wrong with it, and ahead of its being too many cells; one that is not asked for plays no part.
func TestWrongValues(t *testing.T) {
	wrong := []api.Arr{
		{}, {Cells: nums(1, 2).Cells}, with([]int{3}, number(1)), with([]int{-1}), with(make([]int, 9)), with([]int{full + 1}), with([]int{0, full + 1}), filled(full, 2),
		boxes(api.MaxDeep+1, num(1)), atom(api.Cell{Kind: 3}), atom(api.Cell{Kind: -1}), atom(api.Cell{Kind: api.CBox}), atom(sign(-1)), list(number(1), sign(0xd800)), list(number(1), sign(0x110000)),
		atom(api.Cell{Kind: api.CInt, Box: []api.Arr{num(1)}}), atom(api.Cell{Kind: api.CBox, N: 1, Box: []api.Arr{num(1)}}), atom(api.Cell{Kind: api.CBox, Box: []api.Arr{num(1), num(1)}}),
	}
	for _, a := range wrong {
		env := two(a, num(7))
		for _, room := range []int{least, 0, 1, full, most} {
			expectOnce(t, env, evalCase{"a", none, 1, api.ErrArg}, 9, room)
			expectOnce(t, env, evalCase{"a+''", none, 3, api.ErrArg}, 9, room)
		}
		expectOnce(t, env, evalCase{"b+1", num(8), 4, api.OK}, 9, 1)
		expectOnce(t, env, evalCase{"a", none, 0, api.ErrFuel}, 0, 1)
	}
}

// roomCase is a program, how much room it needs, and in how many steps it is told, if there is a cell less.
type roomCase struct {
	text  string
	need  int
	steps int
}

// roomCases are of all that is held.
func roomCases() []roomCase {
	return []roomCase{
		{"5", 1, 1},
		{"1 2 3", 3, 1},
		{"'abcde'", 5, 1},
		{"tab", 6, 1},
		{"b", 4, 1},
		{"deep", 9, 1},
		{"⍳5", 5, 3},
		{"⍋3 1 2", 3, 2},
		{"⍴1 1⍴5", 2, 4},
		{"⊂1 2", 3, 3},
		{"⊂⊂1 2", 4, 5},
		{"≢⍳10", 10, 4},
		{"2 3⍴1", 6, 4},
		{"1++⌿rows", 5, 4},
		{"a,7", 4, 4},
		{"b⍪b", 8, 4},
		{"3 1/b", 10, 4},
		{"5⍴b", 11, 4},
		{"9↑1", 9, 4},
		{"1 1 1⌷b", 9, 4},
		{"b[1 1 1]", 9, 4},
		{"7 8 9[2 2⍴1]", 4, 5},
		{"7 8[1 1 1 1]", 4, 2},
		{"''⍳⊂1 2 3", 4, 4},
		{"1 2∘.+10 20 30", 6, 4},
		{"1 2∘.(+⍨)10 20 30", 6, 4},
		{"+⌿rows", 5, 3},
		{"×/cols", 5, 3},
		{"+\\tab", 6, 2},
		{",⍨a", 6, 4},
		{"1↑⍨7", 7, 5},
		{"{⍵,⍵}a", 6, 7},
		{"a{⍺,⍵}7", 4, 8},
		{"{7}a", 3, 2},
		{"({⍵,⍵}⍣4)7", 16, 3 + 4*5},
		{"(,⍨⍣4)7", 16, 3 + 4*2},
		{"⍳16384", full, 3},
		{"⊂⍳16384", full + 1, 5},
		{",⍨⊂⍳16384", 2*full + 2, 8},
	}
}

// TestRoom: 20.1 to 20.3, P5, with as much room as a program needs it comes to what it comes to with any room, with a cell less to ErrCells.
func TestRoom(t *testing.T) {
	for _, c := range roomCases() {
		p := read(t, c.text)
		want, used, e := aeval.Eval(names(), p, most, most)
		if e != api.OK || used < c.steps {
			t.Fatalf("%s: %v, %d steps", c.text, e, used)
		}
		for _, room := range []int{c.need, c.need + 1, c.need * 3, math.MaxInt32, most} {
			expectOnce(t, names(), evalCase{c.text, want, used, api.OK}, used, room)
		}
		expectOnce(t, names(), evalCase{c.text, none, c.steps, api.ErrCells}, used, c.need-1)
		for _, room := range []int{least, -1, 0, c.need / 2, c.need - 2} {
			if _, _, e := aeval.Eval(names(), p, most, room); room < c.need && e != api.ErrCells {
				t.Errorf("%s: room %d: %v", c.text, room, e)
			}
		}
	}
}

// TestNoRoom: 20.1, P5, with no room there is no array but one without cells.
func TestNoRoom(t *testing.T) {
	for _, room := range []int{least, -1, 0} {
		expectOnce(t, names(), evalCase{"''", text(""), 1, 0}, 9, room)
		expectOnce(t, names(), evalCase{"rows", with([]int{0, 5}), 1, 0}, 9, room)
		expectOnce(t, names(), evalCase{"5", none, 1, api.ErrCells}, 9, room)
		expectOnce(t, names(), evalCase{"≢''", none, 3, api.ErrCells}, 9, room)
	}
}

// TestOrderOfRoom: 20.2, 20.3, a function's error is told ahead of what there is no room for, and that ahead of what is done behind it; the want of a step ahead of both.
func TestOrderOfRoom(t *testing.T) {
	for _, c := range []evalCase{
		{"(-c)+⍳5", none, 4, api.ErrCells},
		{"(⍳5)+-c", none, 4, api.ErrDomain},
		{"1 2÷1 2", none, 4, api.ErrNonce},
		{"1 2,'abc'", none, 4, api.ErrCells},
		{"9⍴''", none, 4, api.ErrLength},
		{"none[1 2 3 4]", none, 2, api.ErrCells},
		{"1 2 3[2 2 0 2]", none, 2, api.ErrCells},
		{"9 9[2 2⍴1 2]", none, 5, api.ErrCells},
	} {
		expectOnce(t, names(), c, 99, 3)
		expectOnce(t, names(), c, c.steps, 3)
		expectOnce(t, names(), evalCase{c.text, none, c.steps - 1, api.ErrFuel}, c.steps-1, 3)
	}
}

// TestFuel: 20.4, P5, as many steps as there is fuel, however often a function would be done.
func TestFuel(t *testing.T) {
	s := "⍵"
	for range 6 {
		s = "({" + s + "}⍣4096)⍵"
	}
	s = "{" + s + "}1"
	for _, fuel := range []int{least, -1, 0, 1, 2, 3, 10, 1000, 99999, 300000} {
		expectOnce(t, names(), evalCase{s, none, max(fuel, 0), api.ErrFuel}, fuel, 1)
	}
}

// TestGreatest: 20.4, programs as deep and as long as can be.
func TestGreatest(t *testing.T) {
	deep := strings.Repeat("-", api.MaxNest-1)
	expectEval(t, names(), evalCase{deep + "1", num(-1), 2*(api.MaxNest-1) + 1, 0})
	turned := "-" + strings.Repeat("⍨", 1000)
	expectEval(t, names(), evalCase{turned + "5", num(0), 3 + 1000, 0})
	items := "a" + strings.Repeat("[1 2 3]", 500)
	expectEval(t, names(), evalCase{items, nums(1, 2, 3), 1 + 500*3, 0})
	long := "1" + strings.Repeat(" 1", 2000)
	expectEval(t, names(), evalCase{"+/" + long, num(2001), 3, 0})
}

// TestSparing: P1, P5, a box laid in as many places as may be is refused for want of room without memory for all of them.
func TestSparing(t *testing.T) {
	const within = 4000
	boxed := "(⊂⍳" + strconv.Itoa(within) + ")"
	for _, s := range []string{
		"16384⍴" + boxed, "16384⌿" + boxed, "16384/," + boxed, "(16384⍴1)⌷," + boxed, "(," + boxed + ")[16384⍴1]",
		boxed + "⍪1 16383⍴0", boxed + ",⍉1 8192⍴0", boxed + "⍴⍨16384", fromNought + "(," + boxed + ")[16384⍴0]",
	} {
		p := read(t, s)
		before, after := runtime.MemStats{}, runtime.MemStats{}
		runtime.ReadMemStats(&before)
		got, _, e := aeval.Eval(api.Env{}, p, 99, 5*within)
		runtime.ReadMemStats(&after)
		if e != api.ErrCells || !alike(got, none) {
			t.Errorf("%s: %v, %v", s, short(got), e)
		}
		if took := after.TotalAlloc - before.TotalAlloc; took > 1<<26 {
			t.Errorf("%s: %d bytes were taken", s, took)
		}
	}
}

// refusedPrograms are such as apl.Print refuses.
func refusedPrograms() map[string]api.Program {
	line := func(n api.Node) api.Program { return api.Program{Origin: 1, Expr: n} }
	node := func(kind int, parts ...api.Node) api.Node { return api.Node{Kind: kind, Kids: parts} }
	prim := func(s string) api.Node { return api.Node{Kind: api.NPrim, Name: s} }
	adverb := func(s string, part api.Node) api.Node {
		return api.Node{Kind: api.NAdv, Name: s, Kids: []api.Node{part}}
	}
	lit := func(a api.Arr) api.Node { return api.Node{Kind: api.NLit, Lit: a} }
	five := lit(num(5))
	deep := five
	for range api.MaxNest {
		deep = node(api.NMo, prim("-"), deep)
	}
	itself := node(api.NMo, prim("-"), five)
	itself.Kids[1] = itself
	power := node(api.NPow, prim("-"))
	power.Op = api.MaxPower + 1
	return map[string]api.Program{
		"nothing":                      {},
		"no expression":                line(api.Node{}),
		"counted from 2":               {Origin: 2, Expr: five},
		"counted from -1":              {Origin: -1, Expr: five},
		"x is set":                     {Set: "x", Origin: 1, Expr: five},
		"nine letters are set":         {Set: "abcdefghi", Origin: 1, Expr: five},
		"⎕IO is set":                   {Set: "⎕IO", Origin: 1, Expr: five},
		"a function":                   line(prim("-")),
		"an argument outside":          line(node(api.NRight)),
		"a left argument alone":        line(node(api.NMo, node(api.NLam1, node(api.NLeft)), five)),
		"an NLam1 of both":             line(node(api.NMo, node(api.NLam1, node(api.NDy, prim("+"), node(api.NLeft), node(api.NRight))), five)),
		"an NLam2 of one":              line(node(api.NDy, node(api.NLam2, node(api.NRight)), five, five)),
		"a list of one":                line(lit(nums(5))),
		"a table":                      line(lit(table())),
		"a box":                        line(lit(atom(box(num(1))))),
		"what may not be":              line(lit(with([]int{2}, number(1)))),
		"a name of x":                  line(api.Node{Kind: api.NVar, Name: "x"}),
		"no name":                      line(api.Node{Kind: api.NVar}),
		"an unknown sign":              line(node(api.NMo, prim("*"), five)),
		"a fold as a sign of one":      line(node(api.NMo, prim("/"), five)),
		"an unknown sign behind":       line(node(api.NMo, adverb("~", prim("+")), five)),
		"a primitive by its number":    line(node(api.NMo, api.Node{Kind: api.NPrim, Op: api.Neg}, five)),
		"a number beside the sign":     line(node(api.NMo, api.Node{Kind: api.NPrim, Op: api.Neg, Name: "-"}, five)),
		"a train of three":             line(node(api.NMo, node(api.NFork, prim("-"), prim("+"), prim("-")), five)),
		"a train of two":               line(node(api.NMo, node(api.NHook, prim("-"), prim("+")), five)),
		"NRedF":                        line(node(api.NMo, node(api.NRedF, prim("+")), five)),
		"NComm":                        line(node(api.NMo, node(api.NComm, prim("+")), five)),
		"too often":                    line(node(api.NMo, power, five)),
		"too few parts":                line(node(api.NMo, prim("-"))),
		"too many parts":               line(node(api.NMo, prim("-"), five, five)),
		"a part too many of a leaf":    line(api.Node{Kind: api.NLit, Lit: num(5), Kids: []api.Node{five}}),
		"too deep":                     line(deep),
		"in itself":                    line(itself),
		"an unknown kind":              line(api.Node{Kind: 99}),
		"wrong behind what would fail": line(node(api.NDy, prim("+"), node(api.NLeft), api.Node{Kind: api.NVar, Name: "none"})),
	}
}

// TestRefused: 20.4, programs that can't be texts are ErrArg, and no step is taken, whatever there is of fuel, room and names.
func TestRefused(t *testing.T) {
	for what, p := range refusedPrograms() {
		if printed(p) != "no text" {
			t.Errorf("%s: the test's own program is a text", what)
		}
		for _, fuel := range []int{least, -1, 0, 1, 100, most} {
			for _, room := range []int{least, 0, 1, most} {
				expectProgram(t, what, names(), p, evalCase{"", none, 0, api.ErrArg}, fuel, room)
				expectProgram(t, what, api.Env{}, p, evalCase{"", none, 0, api.ErrArg}, fuel, room)
			}
		}
	}
}
