package run_test

import (
	"runtime"
	"slices"
	"testing"

	"triglyph/api"
	"triglyph/run"
)

// memory is where lists lie, each of their elements, with what lies behind their lengths.
type memory struct {
	axes   map[*int]int
	cells  map[*api.Cell]int
	arrays map[*api.Arr]int
}

func newMemory() memory {
	return memory{axes: map[*int]int{}, cells: map[*api.Cell]int{}, arrays: map[*api.Arr]int{}}
}

// note puts a list's elements down, and tells whether none of them was down already.
func note[T any](down map[*T]int, l []T) bool {
	fresh := true
	l = l[:cap(l)]
	for i := range l {
		fresh = fresh && down[&l[i]] == 0
		down[&l[i]]++
	}
	return fresh
}

// add puts an array down, and tells whether it shares nothing with what is down, nor within itself.
func (m memory) add(a api.Arr) bool {
	fresh := note(m.axes, a.Shape)
	fresh = note(m.cells, a.Cells) && fresh
	for _, c := range a.Cells {
		fresh = note(m.arrays, c.Box) && fresh
		for _, within := range c.Box {
			fresh = m.add(within) && fresh
		}
	}
	return fresh
}

// expectOwn: an answer shares no memory with other arrays, and no two lists of it share any.
func expectOwn(t *testing.T, what string, got api.Arr, others ...api.Arr) {
	t.Helper()
	m := newMemory()
	for _, a := range others {
		m.add(a)
	}
	if !m.add(got) {
		t.Errorf("%s: what is answered shares memory", what)
	}
}

// arraysOf are all arrays that names and a program have.
func arraysOf(env api.Env, n api.Node) []api.Arr {
	out := slices.Clone(env.Vals)
	every(&n, func(n *api.Node) { out = append(out, n.Lit) })
	return out
}

// sharers are programs whose values are, or hold, what names and literals have.
func sharers() []evalCase {
	a, b, twoBoxes := nums(1, 2, 3), bothKinds(), list(box(nums(1, 2)), box(nums(1, 2)))
	boxed := atom(box(b))
	return []evalCase{
		{what: "a literal", n: lit(1, 2, 3), want: a, steps: 1},
		{what: "a text", n: value(text("abc")), want: text("abc"), steps: 1},
		{what: "a name", n: name("a"), want: a, steps: 1},
		{what: "a name with boxes", n: name("b"), want: b, steps: 1},
		{what: "an argument", n: mo(same(), name("b")), want: b, steps: 4},
		{what: "an argument that is a literal", n: mo(same(), lit(1, 2, 3)), want: a, steps: 4},
		{what: "no time at all", n: mo(power(0, twice()), name("b")), want: b, steps: 3},
		{what: "some times", n: mo(power(3, same()), name("b")), want: b, steps: 3 + 3*2},
		{what: "a left one", n: dy(lam2(two(api.At, two(api.CatF, one(api.Encl, left()), one(api.Encl, right())), lit(0))), name("b"), lit(7)), want: boxed, steps: 15},
		{what: "folded lines of one", n: mo(node(api.NRedF, prim(api.Add)), one(api.List, name("b"))), want: b, steps: 5},
		{what: "scanned lines of one", n: mo(node(api.NScanF, prim(api.Add)), one(api.List, name("b"))), want: with([]int{1, 2}, b.Cells...), steps: 5},
		{what: "a box in two places", n: two(api.Reshape, lit(2), one(api.Encl, lit(1, 2))), want: twoBoxes, steps: 6},
		{what: "a box looked up twice", n: two(api.From, lit(0, 0), one(api.Ravel, one(api.Encl, lit(1, 2)))), want: twoBoxes, steps: 8},
		{what: "a box at two places", n: two(api.At, one(api.Ravel, one(api.Encl, lit(1, 2))), lit(0, 0)), want: twoBoxes, steps: 8},
		{what: "a box, repeated", n: two(api.RepF, lit(2), one(api.Encl, lit(1, 2))), want: twoBoxes, steps: 6},
		{what: "a box with itself behind it", n: mo(comm(prim(api.CatF)), one(api.Encl, lit(1, 2))), want: twoBoxes, steps: 6},
		{what: "a box taken out", n: two(api.Take, lit(2), two(api.Drop, lit(1), two(api.CatL, lit(9), mo(comm(prim(api.CatL)), one(api.Encl, lit(1, 2)))))), want: twoBoxes, steps: 15},
	}
}

// R3: what is told shares nothing with the names or the program, nor in itself.
func TestOwn(t *testing.T) {
	for _, c := range append(sharers(), rightCases()...) {
		env := names()
		expectEval(t, env, c)
		got, _, _ := run.Eval(env, c.n, most, most)
		expectOwn(t, c.what, got, arraysOf(env, c.n)...)
		again, _, _ := run.Eval(env, c.n, most, most)
		expectOwn(t, c.what+", and another answer", again, got)
	}
}

// R3: what comes in stays as it was, whatever comes of it; and what is answered, as it was, when that is changed.
func TestStays(t *testing.T) {
	for _, c := range allCases() {
		env, n := names(), copyNode(c.n)
		wasEnv, wasNode := copyEnv(env), copyNode(n)
		for _, room := range []int{0, 3, most} {
			for _, fuel := range []int{0, c.steps - 1, most} {
				run.Eval(env, n, fuel, room)
				if !alikeEnv(env, wasEnv) || !alikeNode(n, wasNode) {
					t.Fatalf("%s: changed", c.what)
				}
			}
		}
		got, _, _ := run.Eval(env, n, most, most)
		was := copyArr(got)
		for _, a := range arraysOf(env, n) {
			spoil(a)
		}
		if !alike(got, was) {
			t.Errorf("%s: the answer hangs on what came in", c.what)
		}
	}
}

// spoil changes all that an array has.
func spoil(a api.Arr) {
	for i := range a.Shape {
		a.Shape[i] = -99
	}
	for i, c := range a.Cells {
		for _, within := range c.Box {
			spoil(within)
		}
		a.Cells[i] = sign(-99)
	}
}

// longer is an array with something behind each of its lists' lengths.
func longer(a api.Arr) api.Arr {
	out := api.Arr{Shape: append(slices.Clone(a.Shape), -9)[:len(a.Shape)]}
	for _, c := range a.Cells {
		for _, within := range c.Box {
			c.Box = append([]api.Arr{longer(within)}, nums(8, 8, 8))[:1]
		}
		out.Cells = append(out.Cells, c)
	}
	out.Cells = append(out.Cells, box(nums(7)))[:len(a.Cells)]
	return out
}

// isLonger tells whether what lies behind an array's lists is still as longer put it there.
func isLonger(a api.Arr) bool {
	axes, cells := len(a.Shape), len(a.Cells)
	ok := a.Shape[:axes+1][axes] == -9 && alikeCell(a.Cells[:cells+1][cells], box(nums(7)))
	for _, c := range a.Cells {
		for _, within := range c.Box {
			ok = ok && isLonger(within) && alike(c.Box[:2][1], nums(8, 8, 8))
		}
	}
	return ok
}

// R3: what lies behind a list's length plays no part, is not handed out, and stays.
func TestBehind(t *testing.T) {
	for _, c := range allCases() {
		env, n := names(), copyNode(c.n)
		for i, a := range env.Vals {
			env.Vals[i] = longer(a)
		}
		every(&n, func(n *api.Node) {
			if n.Kind == api.NLit {
				n.Lit = longer(n.Lit)
			}
			n.Kids = append(n.Kids, api.Node{Kind: -9})[:len(n.Kids)]
		})
		env.Names = append(env.Names, "none")[:len(env.Names)]
		env.Vals = append(env.Vals, nums(9))[:len(env.Vals)]
		got, used, e := run.Eval(env, n, most, most)
		expect(t, c.what, got, e, c.want, c.err)
		if used != c.steps {
			t.Errorf("%s: %d steps; want %d", c.what, used, c.steps)
		}
		expectOwn(t, c.what, got, arraysOf(env, n)...)
		for _, a := range env.Vals {
			if !isLonger(a) {
				t.Fatalf("%s: what lies behind a value was changed", c.what)
			}
		}
		every(&n, func(n *api.Node) {
			if n.Kind == api.NLit && !isLonger(n.Lit) || n.Kids[:len(n.Kids)+1][len(n.Kids)].Kind != -9 {
				t.Fatalf("%s: what lies behind in the program was changed", c.what)
			}
		})
	}
}

// R3: a list that is nil and one without elements are the same.
func TestNil(t *testing.T) {
	for _, shape := range [][]int{nil, {}} {
		n := api.Node{Kind: api.NLit, Lit: api.Arr{Shape: shape, Cells: num(5).Cells}, Kids: []api.Node{}}
		got, used, e := run.Eval(api.Env{Names: []string{}, Vals: []api.Arr{}}, n, 1, 1)
		if expect(t, "an atom", got, e, num(5), api.OK); used != 1 {
			t.Errorf("%d steps", used)
		}
	}
	for _, cells := range [][]api.Cell{nil, {}} {
		got, _, e := run.Eval(api.Env{}, value(api.Arr{Shape: []int{0}, Cells: cells}), 1, 0)
		expect(t, "no cells", got, e, nums(), api.OK)
	}
	for _, env := range []api.Env{{}, {Names: []string{}}, {Vals: []api.Arr{}}} {
		got, used, e := run.Eval(env, name("a"), 1, 1)
		if expect(t, "no names", got, e, api.Arr{}, api.ErrValue); used != 1 {
			t.Errorf("%d steps", used)
		}
	}
}

// P1, P5: a box laid in as many places as may be is refused for want of room without memory for all of them.
func TestSparing(t *testing.T) {
	const within = 4000
	boxed := one(api.Encl, one(api.Iota, lit(within)))
	listed := one(api.Ravel, boxed)
	many := two(api.Reshape, lit(full), lit(0))
	programs := map[string]api.Node{
		"Reshape": two(api.Reshape, lit(full), boxed),
		"RepF":    two(api.RepF, lit(full), boxed),
		"RepL":    two(api.RepL, lit(full), listed),
		"From":    two(api.From, many, listed),
		"At":      two(api.At, listed, many),
		"CatF":    two(api.CatF, boxed, one(api.List, two(api.Drop, lit(1), many))),
		"CatL":    two(api.CatL, boxed, one(api.Flip, one(api.List, one(api.Iota, lit(full/2))))),
		"turned":  dy(comm(prim(api.Reshape)), boxed, lit(full)),
	}
	for what, n := range programs {
		before, after := runtime.MemStats{}, runtime.MemStats{}
		runtime.ReadMemStats(&before)
		got, _, e := run.Eval(api.Env{}, n, 99, 5*within)
		runtime.ReadMemStats(&after)
		expect(t, what, got, e, api.Arr{}, api.ErrCells)
		if took := after.TotalAlloc - before.TotalAlloc; took > 1<<26 {
			t.Errorf("%s: %d bytes were taken", what, took)
		}
	}
}
