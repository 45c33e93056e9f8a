package meter_test

import (
	"math"
	"math/rand"
	"slices"
	"strconv"
	"testing"

	"triglyph/api"
	"triglyph/arr"
	"triglyph/meter"
)

const (
	least = math.MinInt
	most  = math.MaxInt
	full  = api.MaxCells
)

// number, sign and box are cells that may be.
func number(n int64) api.Cell { return api.Cell{Kind: api.CInt, N: n} }
func sign(n int64) api.Cell   { return api.Cell{Kind: api.CChar, N: n} }
func box(a api.Arr) api.Cell  { return api.Cell{Kind: api.CBox, Box: []api.Arr{a}} }

// atom, list and with are arrays of cells.
func atom(c api.Cell) api.Arr                 { return api.Arr{Cells: []api.Cell{c}} }
func list(c ...api.Cell) api.Arr              { return api.Arr{Shape: []int{len(c)}, Cells: c} }
func with(shape []int, c ...api.Cell) api.Arr { return api.Arr{Shape: shape, Cells: c} }
func nums(l ...int64) api.Arr                 { return arr.Nums(l) }

// boxes is an array within so many boxes.
func boxes(many int, within api.Arr) api.Arr {
	for range many {
		within = atom(box(within))
	}
	return within
}

// counted is the numbers from 0 on in a shape.
func counted(shape ...int) api.Arr {
	size, _ := arr.Size(shape)
	out := api.Arr{Shape: shape}
	for i := range size {
		out.Cells = append(out.Cells, number(int64(i)))
	}
	return out
}

// alike: the same fields all the way down; nil and nothing are alike.
func alike(a, b api.Arr) bool {
	return slices.Equal(a.Shape, b.Shape) && slices.EqualFunc(a.Cells, b.Cells, alikeCells)
}

func alikeCells(a, b api.Cell) bool {
	return a.Kind == b.Kind && a.N == b.N && slices.EqualFunc(a.Box, b.Box, alike)
}

// expectUsed holds what a meter tells of its steps against what is asked for.
func expectUsed(t *testing.T, what string, m *meter.Meter, used, left int) {
	t.Helper()
	if u, l := m.Used(); u != used || l != left {
		t.Errorf("%s: used %d, left %d; want %d, %d", what, u, l, used, left)
	}
}

// expectSteps takes so many steps, all of which there must be, and looks at what is left behind each.
func expectSteps(t *testing.T, what string, m *meter.Meter, used, left, many int) {
	t.Helper()
	for i := range many {
		if e := m.Step(); e != api.OK {
			t.Fatalf("%s: step %d: %v", what, i, e)
		}
		expectUsed(t, what, m, used+i+1, left-i-1)
	}
}

// expectSpent takes some steps more, none of which there may be.
func expectSpent(t *testing.T, what string, m *meter.Meter, used int) {
	t.Helper()
	for range 5 {
		if e := m.Step(); e != api.ErrFuel {
			t.Fatalf("%s: step behind the last: %v", what, e)
		}
		expectUsed(t, what, m, used, 0)
	}
}

// expectHold holds what Hold answers against what is asked for.
func expectHold(t *testing.T, what string, m *meter.Meter, a api.Arr, want api.Errno) {
	t.Helper()
	if e := m.Hold(a); e != want {
		t.Errorf("%s: Hold of %d cells: %v; want %v", what, meter.Cells(a), e, want)
	}
}

// some are numbers for fuel and room, with those below 0 and the least and greatest ones.
func some() []int {
	return []int{least, least + 1, math.MinInt32 - 1, math.MinInt32, -full, -2, -1, 0, 1, 2, 3, 7, 100}
}

// great are numbers of which no test can take all.
func great() []int {
	return []int{math.MaxInt32, math.MaxInt32 + 1, math.MaxUint32, math.MaxUint32 + 1, math.MaxUint32 + 2, most - 1, most}
}

// 9.1: as many steps as there is fuel, none behind these; what is told behind each; the room plays no part.
func TestStep(t *testing.T) {
	for _, fuel := range append(some(), 5000) {
		for _, room := range []int{least, -1, 0, 1, most} {
			what := "New(" + strconv.Itoa(fuel) + ", " + strconv.Itoa(room) + ")"
			m, may := meter.New(fuel, room), max(fuel, 0)
			expectUsed(t, what, m, 0, may)
			expectSteps(t, what, m, 0, may, may)
			expectSpent(t, what, m, may)
		}
	}
}

// 9.1: great numbers of steps are counted as they are.
func TestGreat(t *testing.T) {
	for _, fuel := range great() {
		what := strconv.Itoa(fuel)
		m := meter.New(fuel, 0)
		expectUsed(t, what, m, 0, fuel)
		expectSteps(t, what, m, 0, fuel, 1000)
	}
}

// 9.1: a step more makes the difference.
func TestOneStepMore(t *testing.T) {
	const many = 300000
	m := meter.New(many, 0)
	for range many - 1 {
		if e := m.Step(); e != api.OK {
			t.Fatal(e)
		}
	}
	expectUsed(t, "one is left", m, many-1, 1)
	expectSteps(t, "the last", m, many-1, 1, 1)
	expectSpent(t, "none is left", m, many)
}

// 9.1: to ask takes nothing.
func TestAsked(t *testing.T) {
	m := meter.New(2, 0)
	for range 9 {
		expectUsed(t, "asked", m, 0, 2)
	}
	expectSteps(t, "steps", m, 0, 2, 2)
	for range 9 {
		expectUsed(t, "asked behind", m, 2, 0)
	}
}

// 9.1, P7: what is done with one meter is nothing to another.
func TestSideBySide(t *testing.T) {
	a, b := meter.New(3, 1), meter.New(3, 4)
	expectSteps(t, "a", a, 0, 3, 2)
	expectUsed(t, "b", b, 0, 3)
	expectSteps(t, "b", b, 0, 3, 3)
	expectSpent(t, "b", b, 3)
	expectUsed(t, "a", a, 2, 1)
	expectHold(t, "b", b, nums(1, 2, 3, 4), api.OK)
	expectHold(t, "a", a, nums(1, 2), api.ErrCells)
	expectHold(t, "b", b, nums(1, 2, 3, 4), api.OK)
	expectSteps(t, "a", a, 2, 1, 1)
	expectSpent(t, "a", a, 3)
	late := meter.New(3, 1)
	expectUsed(t, "late", late, 0, 3)
}

// cellsCase is an array, and how many cells it has.
type cellsCase struct {
	what string
	a    api.Arr
	want int
}

// rightCases are arrays that may be.
func rightCases() []cellsCase {
	empty, three := nums(), nums(1, 2, 3)
	return []cellsCase{
		{"no list", empty, 0},
		{"no rows", with([]int{0, 5}), 0},
		{"no columns", with([]int{5, 0}), 0},
		{"eight axes without cells", with([]int{1, 2, 3, 0, 5, 6, 7, 8}), 0},
		{"an axis as long as may be, without cells", with([]int{full, 0, full}), 0},
		{"an atom", atom(number(7)), 1},
		{"a great number counts as one", atom(number(math.MaxInt64)), 1},
		{"a number below 0 counts as one", nums(math.MinInt64, -1), 2},
		{"a sign", atom(sign(0x1f600)), 1},
		{"a list of one", nums(9), 1},
		{"a list", three, 3},
		{"signs", list(sign(97), sign(98)), 2},
		{"a table", counted(2, 3), 6},
		{"more axes", counted(2, 3, 4), 24},
		{"eight axes", counted(2, 1, 2, 1, 2, 1, 2, 1), 16},
		{"as many cells as may be", counted(full), full},
		{"a boxed atom", atom(box(atom(number(1)))), 2},
		{"a boxed list", atom(box(three)), 4},
		{"a box with nothing in it", atom(box(empty)), 1},
		{"a box with a table without cells", list(box(with([]int{3, 0}))), 1},
		{"boxes within boxes", boxes(api.MaxDeep, three), api.MaxDeep + 3},
		{"boxes within boxes, nothing in the last", boxes(api.MaxDeep, empty), api.MaxDeep},
		{"several boxes", list(box(three), box(empty), box(counted(2, 3))), 3 + 3 + 0 + 6},
		{"the last alone is a box", list(number(5), sign(97), box(three)), 3 + 3},
		{"the first alone is a box", list(box(three), number(5), sign(97)), 3 + 3},
		{"boxes side by side within a box", atom(box(list(box(three), number(0), box(nums(1, 2))))), 1 + 3 + 3 + 2},
		{"boxes in a table", with([]int{2, 2}, box(three), number(1), box(atom(box(empty))), sign(97)), 4 + 3 + 1},
		{"one array in two boxes counts twice", list(box(three), box(three)), 2 + 6},
		{"as many cells as may be, each a box", list(slices.Repeat([]api.Cell{box(nums(1, 2))}, full)...), 3 * full},
		{"a box with as many cells as may be", atom(box(counted(full))), full + 1},
	}
}

// wrongCases are arrays that may not be: all that is there counts, in all boxes.
func wrongCases() []cellsCase {
	three := nums(1, 2, 3)
	many := api.Cell{Kind: api.CBox, Box: []api.Arr{three, nums(), nums(1, 2)}}
	return []cellsCase{
		{"nothing at all", api.Arr{}, 0},
		{"an axis without its cells", with([]int{3}), 0},
		{"an axis below 0", with([]int{-1}, number(1)), 1},
		{"more cells than the axes say", with([]int{1}, three.Cells...), 3},
		{"fewer cells than the axes say", with([]int{2, 9}, three.Cells...), 3},
		{"cells where the axes say none", with([]int{0}, three.Cells...), 3},
		{"an atom of three", api.Arr{Cells: three.Cells}, 3},
		{"too many axes", with(make([]int, api.MaxRank+1), number(1), number(2)), 2},
		{"too many cells", list(make([]api.Cell, full+1)...), full + 1},
		{"a box without an array", atom(api.Cell{Kind: api.CBox}), 1},
		{"a box with three arrays", list(many), 1 + 3 + 0 + 2},
		{"boxes with three arrays each", list(many, number(1), many), 3 + 5 + 5},
		{"three arrays within a box", boxes(2, list(many)), 2 + 1 + 5},
		{"boxes within the second of two arrays", list(api.Cell{Kind: api.CBox, Box: []api.Arr{nums(1), list(box(three))}}), 1 + 1 + 1 + 3},
		{"a number with a box", list(api.Cell{Kind: api.CInt, N: 5, Box: []api.Arr{three}}), 4},
		{"a sign with a box", list(api.Cell{Kind: api.CChar, N: 97, Box: []api.Arr{three, three}}), 7},
		{"no kind, with a box", list(api.Cell{Kind: -1, Box: []api.Arr{three}}, api.Cell{Kind: 3, Box: []api.Arr{boxes(1, three)}}), 2 + 3 + 4},
		{"a box with a number", list(api.Cell{Kind: api.CBox, N: 1, Box: []api.Arr{three}}), 4},
		{"no sign", list(sign(-1), sign(0xd800), sign(0x110000)), 3},
		{"a wrong array in a box", atom(box(with([]int{-4}, three.Cells...))), 4},
		{"too many boxes", boxes(api.MaxDeep+1, three), api.MaxDeep + 1 + 3},
		{"as many boxes as a program may be given", boxes(1<<16-1, three), 1<<16 - 1 + 3},
	}
}

// allCases are all of them.
func allCases() []cellsCase { return append(rightCases(), wrongCases()...) }

// 9.2: the cells of an array, and of all arrays in its boxes.
func TestCells(t *testing.T) {
	for _, c := range allCases() {
		for range 2 {
			if got := meter.Cells(c.a); got != c.want {
				t.Errorf("%s: %d; want %d", c.what, got, c.want)
			}
		}
	}
	for _, c := range rightCases() {
		if e := arr.Check(c.a); e != api.OK {
			t.Errorf("%s: the test's own array may not be: %v", c.what, e)
		}
	}
	for _, c := range wrongCases() {
		if e := arr.Check(c.a); e == api.OK {
			t.Errorf("%s: the test's own array may be", c.what)
		}
	}
}

// 9.2: held with room for as many cells as it has, and for more; not with room for one fewer, or for less.
func TestHold(t *testing.T) {
	for _, c := range allCases() {
		for _, fuel := range []int{least, 0, 1, most} {
			for _, room := range []int{c.want, c.want + 1, c.want + 1<<32, most} {
				expectHold(t, c.what, meter.New(fuel, room), c.a, api.OK)
			}
			if c.want == 0 {
				continue
			}
			for _, room := range []int{c.want - 1, c.want / 2, 0, -1, least} {
				expectHold(t, c.what, meter.New(fuel, room), c.a, api.ErrCells)
			}
		}
	}
}

// 9.2: with room for none just arrays without cells are held, whatever their axes; a number below 0 is 0.
func TestNoRoom(t *testing.T) {
	for _, room := range []int{least, least + 1, math.MinInt32, -1, 0} {
		m := meter.New(9, room)
		expectHold(t, "no list", m, nums(), api.OK)
		expectHold(t, "no rows", m, with([]int{0, 5}), api.OK)
		expectHold(t, "nothing at all", m, api.Arr{}, api.OK)
		expectHold(t, "an atom", m, atom(number(0)), api.ErrCells)
		expectHold(t, "a box with nothing in it", m, atom(box(nums())), api.ErrCells)
	}
}

// 9.2: the edge, number by number; great rooms are as great as they say.
func TestRoom(t *testing.T) {
	for room := -3; room <= 40; room++ {
		m := meter.New(0, room)
		for n := range 45 {
			want := api.OK
			if n > max(room, 0) {
				want = api.ErrCells
			}
			expectHold(t, "list, room "+strconv.Itoa(room), m, counted(n), want)
			if n > 0 {
				expectHold(t, "box, room "+strconv.Itoa(room), m, atom(box(counted(n-1))), want)
			}
		}
	}
	for _, room := range great() {
		expectHold(t, strconv.Itoa(room), meter.New(0, room), counted(full), api.OK)
	}
	expectHold(t, "full", meter.New(0, full), counted(full), api.OK)
	expectHold(t, "full but one", meter.New(0, full-1), counted(full), api.ErrCells)
	expectHold(t, "full and a box", meter.New(0, full), atom(box(counted(full))), api.ErrCells)
}

// 9.2: the room is for each array anew: what was held, or refused, takes none of it.
func TestHeldBefore(t *testing.T) {
	m := meter.New(0, 5)
	for range 20 {
		expectHold(t, "as many as may be", m, counted(5), api.OK)
		expectHold(t, "one more", m, counted(6), api.ErrCells)
		expectHold(t, "boxes", m, list(box(nums(1, 2)), number(1)), api.OK)
		expectHold(t, "boxes, one more", m, list(box(nums(1, 2)), box(nums(1, 2))), api.ErrCells)
		expectHold(t, "none", m, nums(), api.OK)
	}
}

// 9.1, 9.2: to hold takes no step, to step no room; nor does one's error touch the other.
func TestApart(t *testing.T) {
	m := meter.New(2, 2)
	hold := func(what string) {
		t.Helper()
		expectHold(t, what, m, nums(1, 2), api.OK)
		expectHold(t, what, m, nums(1, 2, 3), api.ErrCells)
	}
	hold("ahead")
	expectUsed(t, "ahead", m, 0, 2)
	expectSteps(t, "first", m, 0, 2, 1)
	hold("between")
	expectUsed(t, "between", m, 1, 1)
	expectSteps(t, "second", m, 1, 1, 1)
	hold("behind")
	expectUsed(t, "behind", m, 2, 0)
	expectSpent(t, "spent", m, 2)
	hold("spent")
	expectUsed(t, "spent", m, 2, 0)
}

// 9.3: of two meters the one that may do more allows all that the other one does, and what is refused to it is refused to the other one.
func TestMoreAllows(t *testing.T) {
	fuels := append(some(), great()...)
	rooms := append(some(), great()...)
	cases := allCases()
	for _, fuel := range fuels {
		for _, more := range fuels {
			if more < fuel {
				continue
			}
			a, b := meter.New(fuel, 0), meter.New(more, 0)
			for i := range 110 {
				if a.Step() == api.OK && b.Step() != api.OK {
					t.Fatalf("fuel %d, %d: step %d", fuel, more, i)
				}
			}
		}
	}
	for _, room := range rooms {
		for _, more := range rooms {
			if more < room {
				continue
			}
			a, b := meter.New(0, room), meter.New(0, more)
			for _, c := range cases {
				if a.Hold(c.a) == api.OK && b.Hold(c.a) != api.OK {
					t.Fatalf("room %d, %d: %s", room, more, c.what)
				}
			}
		}
	}
}

// plainCells says the promise another way: all arrays that lie in it, one behind the other, and how many cells each has.
func plainCells(a api.Arr) int {
	n, waiting := 0, []api.Arr{a}
	for len(waiting) > 0 {
		last := waiting[len(waiting)-1]
		waiting = waiting[:len(waiting)-1]
		for _, c := range last.Cells {
			n++
			waiting = append(waiting, c.Box...)
		}
	}
	return n
}

// anyArr is an array by chance, within so many boxes at most; it need not be one that may be.
func anyArr(r *rand.Rand, deep int) api.Arr {
	a := api.Arr{Shape: make([]int, r.Intn(3))}
	for i := range a.Shape {
		a.Shape[i] = r.Intn(6) - 1
	}
	for range r.Intn(5) {
		c := api.Cell{Kind: r.Intn(4), N: r.Int63()}
		for range r.Intn(3) * min(deep, 1) {
			c.Box = append(c.Box, anyArr(r, deep-1))
		}
		a.Cells = append(a.Cells, c)
	}
	return a
}

// 9.1, 9.2: many calls by chance, held against what was counted beside them.
func TestMany(t *testing.T) {
	r := rand.New(rand.NewSource(9))
	for range 2000 {
		fuel, room := r.Intn(12)-2, r.Intn(60)-2
		m, used := meter.New(fuel, room), 0
		for range 30 {
			if r.Intn(2) == 0 {
				want := api.ErrFuel
				if used < fuel {
					used++
					want = api.OK
				}
				if e := m.Step(); e != want {
					t.Fatalf("fuel %d, used %d: %v; want %v", fuel, used, e, want)
				}
			} else {
				a := anyArr(r, 3)
				want := api.OK
				if plainCells(a) > max(room, 0) {
					want = api.ErrCells
				}
				if e, n := m.Hold(a), meter.Cells(a); e != want || n != plainCells(a) {
					t.Fatalf("room %d, %v: %d, %v; want %d, %v", room, a, n, e, plainCells(a), want)
				}
			}
			expectUsed(t, "many", m, used, max(fuel, 0)-used)
		}
	}
}

// R3: what comes in stays as it was.
func TestStays(t *testing.T) {
	for _, c := range allCases() {
		if c.want > 1<<15 {
			continue
		}
		was := deepCopy(c.a)
		meter.Cells(c.a)
		meter.New(1, c.want).Hold(c.a)
		meter.New(1, 0).Hold(c.a)
		if !alike(c.a, was) {
			t.Errorf("%s: changed", c.what)
		}
	}
}

// deepCopy is any array, that may be or not, in new memory.
func deepCopy(a api.Arr) api.Arr {
	out := api.Arr{Shape: slices.Clone(a.Shape), Cells: slices.Clone(a.Cells)}
	for i, c := range out.Cells {
		out.Cells[i].Box = slices.Clone(c.Box)
		for j, within := range c.Box {
			out.Cells[i].Box[j] = deepCopy(within)
		}
	}
	return out
}

// R3: what was held is not kept: what becomes of it behind the call plays no part.
func TestNotKept(t *testing.T) {
	m := meter.New(1, 3)
	a := list(number(1), number(2))
	expectHold(t, "ahead", m, a, api.OK)
	a.Cells[0] = box(nums(1, 2, 3))
	expectHold(t, "another", m, nums(1, 2, 3), api.OK)
	expectHold(t, "grown", m, a, api.ErrCells)
	a.Cells[0] = number(1)
	expectHold(t, "as it was", m, a, api.OK)
}

// R3: what lies behind a list's length does not count, and stays.
func TestBehind(t *testing.T) {
	cells := []api.Cell{number(1), box(nums(1, 2)), box(nums(1, 2, 3))}
	within := []api.Arr{nums(1, 2), nums(3, 4, 5)}
	a := api.Arr{Shape: []int{2}, Cells: cells[:2]}
	a.Cells[1].Box = within[:1]
	if got := meter.Cells(a); got != 4 {
		t.Errorf("Cells: %d", got)
	}
	expectHold(t, "room", meter.New(0, 4), a, api.OK)
	expectHold(t, "no room", meter.New(0, 3), a, api.ErrCells)
	if !alikeCells(cells[2], box(nums(1, 2, 3))) || !alike(within[1], nums(3, 4, 5)) {
		t.Error("what lies behind was changed")
	}
}

// R3: a list that is nil and one without elements are the same.
func TestNil(t *testing.T) {
	for _, a := range []api.Arr{{}, {Shape: []int{}, Cells: []api.Cell{}}, {Shape: []int{0}}, {Shape: []int{0}, Cells: []api.Cell{}}} {
		if got := meter.Cells(a); got != 0 {
			t.Errorf("%v: %d", a, got)
		}
	}
	for _, b := range [][]api.Arr{nil, {}} {
		if got := meter.Cells(atom(api.Cell{Kind: api.CBox, Box: b})); got != 1 {
			t.Errorf("%v: %d", b, got)
		}
	}
}

// TestExamples: the chapter's own.
func TestExamples(t *testing.T) {
	m := meter.New(1, 2)
	if e := m.Step(); e != api.OK {
		t.Errorf("the first step: %v", e)
	}
	if e := m.Step(); e != api.ErrFuel {
		t.Errorf("the second step: %v", e)
	}
	expectUsed(t, "example", m, 1, 0)
	expectHold(t, "example", m, nums(1, 2, 3), api.ErrCells)
}
