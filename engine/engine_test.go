package engine_test

import (
	"slices"
	"strconv"
	"testing"

	"triglyph/api"
	"triglyph/arr"
	"triglyph/engine"
	"triglyph/layout"
	"triglyph/pick"
)

func num(n int64) api.Arr     { return arr.Atom(n) }
func nums(l ...int64) api.Arr { return arr.Nums(l) }

// boxed is a list of boxes, an array in each.
func boxed(l ...api.Arr) api.Arr {
	out := api.Arr{Shape: []int{len(l)}}
	for _, a := range l {
		out.Cells = append(out.Cells, api.Cell{Kind: api.CBox, Box: []api.Arr{a}})
	}
	return out
}

// expect holds an answer against the one asked for: with an error nothing else.
func expect(t *testing.T, what string, got api.Arr, e api.Errno, want api.Arr, wantErr api.Errno) {
	t.Helper()
	nothing := len(got.Shape)+len(got.Cells) == 0
	if e != wantErr || e != api.OK && !nothing || e == api.OK && !arr.Same(got, want) {
		t.Errorf("%s: %v, %v; want %v, %v", what, got, e, want, wantErr)
	}
}

// TestHeld: what came is held if there is room for it; an error stays what it was.
func TestHeld(t *testing.T) {
	g := engine.New(api.Env{}, 9, 3)
	for _, c := range []struct {
		a       api.Arr
		e, want api.Errno
	}{
		{nums(1, 2, 3), api.OK, api.OK},
		{nums(1, 2, 3, 4), api.OK, api.ErrCells},
		{boxed(nums(1, 2)), api.OK, api.OK},
		{boxed(nums(1, 2, 3)), api.OK, api.ErrCells},
		{num(1), api.ErrDomain, api.ErrDomain},
		{nums(1, 2, 3, 4), api.ErrDomain, api.ErrDomain},
	} {
		got, e := g.Held(c.a, c.e)
		expect(t, "Held", got, e, c.a, c.want)
	}
	if used, left := g.Used(); used != 0 || left != 9 {
		t.Errorf("used %d, left %d", used, left)
	}
}

// TestNamed: 11.2, what a name has.
func TestNamed(t *testing.T) {
	wrong := api.Arr{Shape: []int{2}}
	env := api.Env{Names: []string{"a", "b", "a", "c", "d"}, Vals: []api.Arr{nums(1, 2), nums(1, 2, 3), num(7), wrong}}
	for name, c := range map[string]struct {
		want api.Arr
		e    api.Errno
	}{
		"a": {nums(1, 2), api.OK}, "b": {api.Arr{}, api.ErrCells}, "c": {api.Arr{}, api.ErrArg}, "d": {api.Arr{}, api.ErrValue}, "e": {api.Arr{}, api.ErrValue},
	} {
		got, e := engine.New(env, 0, 2).Named(name)
		expect(t, name, got, e, c.want, c.e)
	}
}

// TestOften: a function is done so many times, one upon the other, and never behind an error.
func TestOften(t *testing.T) {
	calls := 0
	double := func(x api.Arr) (api.Arr, api.Errno) {
		calls++
		if calls == 6 {
			return nums(9), api.ErrOverflow
		}
		return num(x.Cells[0].N * 2), api.OK
	}
	for times, want := range []int64{5, 10, 20} {
		calls = 0
		got, e := engine.Often(times, double, num(5))
		if expect(t, strconv.Itoa(times), got, e, num(want), api.OK); calls != times {
			t.Errorf("%d times: %d calls", times, calls)
		}
	}
	calls = 0
	got, e := engine.Often(9, double, num(5))
	if expect(t, "9", got, e, api.Arr{}, api.ErrOverflow); calls != 6 {
		t.Errorf("%d calls behind an error", calls)
	}
}

// TestTold: what is told is new memory, each box's, too; and how many steps were taken, also beside an error.
func TestTold(t *testing.T) {
	g := engine.New(api.Env{}, 3, 9)
	g.Step()
	g.Step()
	shared := nums(1, 2)
	a := boxed(shared, shared)
	got, used, e := g.Told(a, api.OK)
	if expect(t, "told", got, e, boxed(nums(1, 2), nums(1, 2)), api.OK); used != 2 {
		t.Errorf("%d steps", used)
	}
	first, second := got.Cells[0].Box[0], got.Cells[1].Box[0]
	if &first.Cells[0] == &second.Cells[0] || &first.Cells[0] == &shared.Cells[0] || &got.Cells[0] == &a.Cells[0] {
		t.Error("what is told shares memory")
	}
	got, used, e = g.Told(a, api.ErrRank)
	if expect(t, "an error", got, e, api.Arr{}, api.ErrRank); used != 2 {
		t.Errorf("%d steps", used)
	}
}

// TestSparing: what comes is what comes without; but each box that was laid has one memory, that of the argument; and the arguments stay.
func TestSparing(t *testing.T) {
	picked := func(op int) func(x, y api.Arr) (api.Arr, api.Errno) {
		return func(x, y api.Arr) (api.Arr, api.Errno) { return pick.Dy(op, x, y) }
	}
	x, y := boxed(nums(1, 2), num(7)), boxed(num(7), nums(), boxed(num(1)))
	y.Cells = append(y.Cells, num(3).Cells...)
	y.Shape = []int{4}
	for _, a := range []api.Arr{x, y, num(1), num(2), num(-3), nums(3, 0, 1, 2), nums(2, 2), nums(1, 9), nums()} {
		for _, b := range []api.Arr{x, y, num(0), nums(1, 2), nums()} {
			wasA, wasB := arr.Copy(a), arr.Copy(b)
			for op := api.Reshape; op <= api.Div; op++ {
				do := picked(op)
				if op == api.Reshape {
					do = layout.Reshape
				}
				want, wantErr := do(a, b)
				got, e := engine.Sparing(do, a, b)
				expect(t, strconv.Itoa(op), got, e, want, wantErr)
				for _, c := range got.Cells {
					if c.Kind == api.CBox && !isAmong(c, a, b) {
						t.Errorf("%d: a box has memory of its own", op)
					}
				}
				if !arr.Same(a, wasA) || !arr.Same(b, wasB) {
					t.Fatalf("%d: changed", op)
				}
			}
		}
	}
}

// isAmong tells whether a box is one of two arrays', in the same memory.
func isAmong(c api.Cell, a, b api.Arr) bool {
	return slices.ContainsFunc(slices.Concat(a.Cells, b.Cells), func(other api.Cell) bool {
		return other.Kind == api.CBox && &other.Box[0] == &c.Box[0]
	})
}
