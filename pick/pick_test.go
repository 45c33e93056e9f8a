package pick_test

import (
	"math"
	"math/rand"
	"slices"
	"testing"

	"triglyph/api"
	"triglyph/arr"
	"triglyph/pick"
)

const (
	least = math.MinInt64
	most  = math.MaxInt64
	full  = api.MaxCells
)

// number, sign and box are cells that may be.
func number(n int64) api.Cell { return api.Cell{Kind: api.CInt, N: n} }
func sign(n int64) api.Cell   { return api.Cell{Kind: api.CChar, N: n} }
func box(a api.Arr) api.Cell  { return api.Cell{Kind: api.CBox, Box: []api.Arr{a}} }

// atom, list, with and of are arrays of cells.
func atom(c api.Cell) api.Arr                 { return api.Arr{Cells: []api.Cell{c}} }
func list(c ...api.Cell) api.Arr              { return api.Arr{Shape: []int{len(c)}, Cells: c} }
func with(shape []int, c ...api.Cell) api.Arr { return api.Arr{Shape: shape, Cells: c} }
func of(shape []int, l ...int64) api.Arr      { return with(shape, arr.Nums(l).Cells...) }
func nums(l ...int64) api.Arr                 { return arr.Nums(l) }
func text(s string) api.Arr {
	out := api.Arr{Shape: []int{len(s)}}
	for _, r := range s {
		out.Cells = append(out.Cells, sign(int64(r)))
	}
	return out
}
func boxes(many int, within api.Arr) api.Arr {
	for range many {
		within = atom(box(within))
	}
	return within
}

// counted is the numbers from 0 on in a shape.
func counted(shape ...int) api.Arr {
	size, _ := arr.Size(shape)
	out := api.Arr{Shape: shape}
	for i := range size {
		out.Cells = append(out.Cells, number(int64(i)))
	}
	return out
}

// same is so many of one number.
func same(many int, n int64) []int64 { return slices.Repeat([]int64{n}, many) }

// numbered is the numbers from one up to another, that left out.
func numbered(from, end int64) []int64 {
	l := []int64{}
	for n := from; n < end; n++ {
		l = append(l, n)
	}
	return l
}

// alike: the same fields all the way down; nil and nothing are alike.
func alike(a, b api.Arr) bool {
	return slices.Equal(a.Shape, b.Shape) && slices.EqualFunc(a.Cells, b.Cells, alikeCells)
}

func alikeCells(a, b api.Cell) bool {
	return a.Kind == b.Kind && a.N == b.N && slices.EqualFunc(a.Box, b.Box, alike)
}

// twos are the functions of two arguments of this layer.
func twos() []int {
	return []int{api.Take, api.Drop, api.RotF, api.RotL, api.CatF, api.CatL, api.RepF, api.RepL, api.From, api.At}
}

// anyOps are numbers of functions, and numbers that name none.
func anyOps() []int {
	l := []int{math.MinInt, math.MinInt + api.Take, math.MinInt32, -1 << 16, 1 << 16, 1<<32 + api.Take, math.MaxInt32, math.MaxInt - api.From, math.MaxInt}
	for op := -70; op <= 130; op++ {
		l = append(l, op)
	}
	return l
}

// expect holds an answer against the one asked for: with an error nothing else. What is answered may be.
func expect(t *testing.T, what string, got api.Arr, e api.Errno, want api.Arr, wantErr api.Errno) {
	t.Helper()
	if wantErr != api.OK {
		want = api.Arr{}
	}
	if e != wantErr || !alike(got, want) {
		t.Errorf("%s: %v, %v; want %v, %v", what, short(got), e, short(want), wantErr)
	}
	if check := arr.Check(got); e == api.OK && check != api.OK {
		t.Errorf("%s: %v may not be: %v", what, short(got), check)
	}
}

// short is what of an array is worth telling.
func short(a api.Arr) api.Arr {
	a.Cells = a.Cells[:min(len(a.Cells), 30)]
	return a
}

// twoCase is two arguments of a function, and what comes of them.
type twoCase struct {
	op         int
	a, b, want api.Arr
	err        api.Errno
}

// expectTwos: each of them is answered as it says.
func expectTwos(t *testing.T, cases []twoCase) {
	t.Helper()
	for i, c := range cases {
		got, e := pick.Dy(c.op, c.a, c.b)
		if c.err != e || !alike(got, c.want) {
			t.Errorf("%d: Dy(%d, %v, %v)", i, c.op, short(c.a), short(c.b))
		}
		expect(t, "Dy", got, e, c.want, c.err)
	}
}

// table is two rows of three; solid two tables of three rows of four.
func table() api.Arr { return counted(2, 3) }
func solid() api.Arr { return counted(2, 3, 4) }

// eight are MaxRank axes, and one of them is 2.
func eight(two int) []int {
	shape := []int{1, 1, 1, 1, 1, 1, 1, 1}
	shape[two] = 2
	return shape
}

// mixed is of all kinds, in two rows: a number, a sign, two boxes.
func mixed() api.Arr {
	return with([]int{2, 2}, number(7), sign(0x2373), box(nums(1, 2)), box(list(sign(97), box(nums()))))
}

// notNumbers: which are no number, and what is answered where a number is asked for.
func notNumbers() []wrongArray {
	return []wrongArray{
		{nums(1), api.ErrRank}, {nums(), api.ErrRank}, {nums(1, 2), api.ErrRank}, {of([]int{1, 1}, 1), api.ErrRank}, {of([]int{0, 3}), api.ErrRank}, {of(eight(3), 1, 2), api.ErrRank}, {text("a"), api.ErrRank}, {list(box(nums(1))), api.ErrRank}, {nums(full + 1), api.ErrRank},
		{atom(sign(1)), api.ErrDomain}, {atom(sign(97)), api.ErrDomain}, {atom(box(arr.Atom(1))), api.ErrDomain}, {boxes(8, nums()), api.ErrDomain},
	}
}

// TestNumber: 6.1 and 6.2: the number a is looked at ahead of what b is.
func TestNumber(t *testing.T) {
	for _, w := range notNumbers() {
		for _, b := range []api.Arr{arr.Atom(7), nums(), nums(1, 2, 3), table(), of([]int{0, 3}), atom(box(nums(1))), of([]int{0, full, full}), mixed()} {
			for _, op := range []int{api.Take, api.Drop, api.RotF, api.RotL} {
				got, e := pick.Dy(op, w.a, b)
				expect(t, "by what is no number", got, e, api.Arr{}, w.err)
			}
		}
	}
}

// takeCases: 6.1 of Take.
func takeCases() []twoCase {
	abc := nums(7, 8, 9)
	m := mixed().Cells
	rows := []struct {
		n       int64
		b, want api.Arr
		err     api.Errno
	}{
		{0, abc, nums(), api.OK}, {1, abc, nums(7), api.OK}, {2, abc, nums(7, 8), api.OK}, {3, abc, abc, api.OK}, {4, abc, nums(7, 8, 9, 0), api.OK}, {6, abc, nums(7, 8, 9, 0, 0, 0), api.OK},
		{-1, abc, nums(9), api.OK}, {-2, abc, nums(8, 9), api.OK}, {-3, abc, abc, api.OK}, {-4, abc, nums(0, 7, 8, 9), api.OK}, {-6, abc, nums(0, 0, 0, 7, 8, 9), api.OK},
		{0, table(), of([]int{0, 3}), api.OK}, {1, table(), of([]int{1, 3}, 0, 1, 2), api.OK}, {2, table(), table(), api.OK}, {3, table(), of([]int{3, 3}, 0, 1, 2, 3, 4, 5, 0, 0, 0), api.OK}, {-1, table(), of([]int{1, 3}, 3, 4, 5), api.OK}, {-2, table(), table(), api.OK}, {-3, table(), of([]int{3, 3}, 0, 0, 0, 0, 1, 2, 3, 4, 5), api.OK},
		{1, solid(), counted(1, 3, 4), api.OK}, {-1, solid(), of([]int{1, 3, 4}, numbered(12, 24)...), api.OK}, {3, solid(), of([]int{3, 3, 4}, append(numbered(0, 24), same(12, 0)...)...), api.OK}, {-3, solid(), of([]int{3, 3, 4}, append(same(12, 0), numbered(0, 24)...)...), api.OK},
		// An atom is a list of one.
		{0, arr.Atom(5), nums(), api.OK}, {1, arr.Atom(5), nums(5), api.OK}, {-1, arr.Atom(5), nums(5), api.OK}, {3, arr.Atom(5), nums(5, 0, 0), api.OK}, {-3, arr.Atom(5), nums(0, 0, 5), api.OK}, {3, atom(sign(97)), text("a  "), api.OK}, {-3, atom(sign(97)), text("  a"), api.OK}, {0, atom(box(abc)), nums(), api.OK}, {1, atom(box(abc)), list(box(abc)), api.OK}, {-1, atom(box(abc)), list(box(abc)), api.OK}, {2, atom(box(abc)), api.Arr{}, api.ErrDomain}, {-2, atom(box(abc)), api.Arr{}, api.ErrDomain},
		// What fills up hangs on the first cell alone.
		{4, text("ab"), text("ab  "), api.OK}, {-4, text("ab"), text("  ab"), api.OK}, {2, with([]int{1, 2}, text("ab").Cells...), with([]int{2, 2}, text("ab  ").Cells...), api.OK}, {3, list(sign(97), number(1)), list(sign(97), number(1), sign(32)), api.OK}, {-3, list(sign(97), number(1)), list(sign(32), sign(97), number(1)), api.OK}, {3, list(number(1), sign(97)), list(number(1), sign(97), number(0)), api.OK}, {-3, list(number(1), box(abc)), list(number(0), number(1), box(abc)), api.OK}, {3, list(sign(97), box(abc)), list(sign(97), box(abc), sign(32)), api.OK},
		{3, list(box(abc), number(1)), api.Arr{}, api.ErrDomain}, {-3, list(box(abc), number(1)), api.Arr{}, api.ErrDomain}, {2, list(box(abc), number(1)), list(box(abc), number(1)), api.OK}, {-2, list(box(abc), number(1)), list(box(abc), number(1)), api.OK}, {1, list(box(abc), number(1)), list(box(abc)), api.OK}, {-1, list(box(abc), number(1)), nums(1), api.OK},
		{1, mixed(), with([]int{1, 2}, m[:2]...), api.OK}, {-1, mixed(), with([]int{1, 2}, m[2:]...), api.OK}, {3, mixed(), with([]int{3, 2}, m[0], m[1], m[2], m[3], number(0), number(0)), api.OK}, {-1, boxes(8, nums()), list(box(boxes(7, nums()))), api.OK},
		// Of arrays without cells.
		{0, nums(), nums(), api.OK}, {3, nums(), nums(0, 0, 0), api.OK}, {-3, nums(), nums(0, 0, 0), api.OK}, {0, of([]int{0, 3}), of([]int{0, 3}), api.OK}, {2, of([]int{0, 3}), of([]int{2, 3}, same(6, 0)...), api.OK}, {-1, of([]int{0, 2, 2}), of([]int{1, 2, 2}, same(4, 0)...), api.OK},
		{2, of([]int{3, 0}), of([]int{2, 0}), api.OK}, {-5, of([]int{3, 0}), of([]int{5, 0}), api.OK}, {0, of([]int{3, 0}), of([]int{0, 0}), api.OK}, {full, of([]int{3, 0}), of([]int{full, 0}), api.OK}, {-full, of([]int{0, 0, full}), of([]int{full, 0, full}), api.OK}, {7, of([]int{2, 0, 3}), of([]int{7, 0, 3}), api.OK}, {7, of([]int{2, 3, 0}), of([]int{7, 3, 0}), api.OK},
		{0, of([]int{0, full, full, full, full, full, full, full}), of([]int{0, full, full, full, full, full, full, full}), api.OK}, {1, of([]int{0, full, full, full, full, full, full, full}), api.Arr{}, api.ErrCells}, {-1, of([]int{0, full, 2}), api.Arr{}, api.ErrCells}, {1, of([]int{0, full}), of([]int{1, full}, same(full, 0)...), api.OK}, {2, of([]int{0, full}), api.Arr{}, api.ErrCells},
		{1, of(eight(0), 3, 4), of([]int{1, 1, 1, 1, 1, 1, 1, 1}, 3), api.OK}, {-1, of(eight(0), 3, 4), of([]int{1, 1, 1, 1, 1, 1, 1, 1}, 4), api.OK}, {2, of(eight(7), 3, 4), of([]int{2, 1, 1, 1, 1, 1, 1, 2}, 3, 4, 0, 0), api.OK},
		// As many as there may be, and one more.
		{full, abc, of([]int{full}, append([]int64{7, 8, 9}, same(full-3, 0)...)...), api.OK}, {-full, abc, of([]int{full}, append(same(full-3, 0), 7, 8, 9)...), api.OK}, {full, counted(full), counted(full), api.OK}, {-full, counted(full), counted(full), api.OK}, {full - 1, counted(full), counted(full - 1), api.OK}, {1 - full, counted(full), of([]int{full - 1}, numbered(1, full)...), api.OK},
		{full + 1, abc, api.Arr{}, api.ErrCells}, {-full - 1, abc, api.Arr{}, api.ErrCells}, {most, abc, api.Arr{}, api.ErrCells}, {least, abc, api.Arr{}, api.ErrCells}, {least + 1, abc, api.Arr{}, api.ErrCells}, {1 << 32, abc, api.Arr{}, api.ErrCells}, {1<<32 + 2, abc, api.Arr{}, api.ErrCells}, {-1 << 32, abc, api.Arr{}, api.ErrCells}, {full + 1, of([]int{3, 0}), api.Arr{}, api.ErrCells}, {-full - 1, of([]int{3, 0}), api.Arr{}, api.ErrCells}, {full + 1, nums(), api.Arr{}, api.ErrCells}, {full + 1, arr.Atom(1), api.Arr{}, api.ErrCells}, {most, of([]int{0, 0}), api.Arr{}, api.ErrCells},
		{full/2 + 1, counted(3, 2), api.Arr{}, api.ErrCells}, {-full/2 - 1, counted(3, 2), api.Arr{}, api.ErrCells}, {full / 2, counted(1, 2), of([]int{full / 2, 2}, append([]int64{0, 1}, same(full-2, 0)...)...), api.OK}, {129, counted(1, 128), api.Arr{}, api.ErrCells}, {2, counted(1, full), api.Arr{}, api.ErrCells}, {2, counted(1, full/2), of([]int{2, full / 2}, append(numbered(0, full/2), same(full/2, 0)...)...), api.OK},
		// That it is too large is ahead of what a box can't fill up.
		{full + 1, list(box(abc)), api.Arr{}, api.ErrCells}, {-full - 1, atom(box(abc)), api.Arr{}, api.ErrCells}, {full/2 + 1, with([]int{1, 2}, box(abc), box(abc)), api.Arr{}, api.ErrCells}, {full / 2, with([]int{1, 2}, box(abc), box(abc)), api.Arr{}, api.ErrDomain}, {full, list(box(abc)), api.Arr{}, api.ErrDomain},
	}
	l := []twoCase{}
	for _, r := range rows {
		l = append(l, twoCase{api.Take, arr.Atom(r.n), r.b, r.want, r.err})
	}
	return l
}

// TestTake: 6.1.
func TestTake(t *testing.T) { expectTwos(t, takeCases()) }

// dropCases: 6.1 of Drop.
func dropCases() []twoCase {
	abc := nums(7, 8, 9)
	m := mixed().Cells
	rows := []struct {
		n       int64
		b, want api.Arr
	}{
		{0, abc, abc}, {1, abc, nums(8, 9)}, {2, abc, nums(9)}, {3, abc, nums()}, {4, abc, nums()}, {-1, abc, nums(7, 8)}, {-2, abc, nums(7)}, {-3, abc, nums()}, {-4, abc, nums()},
		{full, abc, nums()}, {full + 1, abc, nums()}, {-full, abc, nums()}, {-full - 1, abc, nums()}, {most, abc, nums()}, {least, abc, nums()}, {least + 1, abc, nums()}, {1 << 32, abc, nums()}, {1<<32 + 1, abc, nums()}, {-1<<32 - 1, abc, nums()},
		{0, table(), table()}, {1, table(), of([]int{1, 3}, 3, 4, 5)}, {-1, table(), of([]int{1, 3}, 0, 1, 2)}, {2, table(), of([]int{0, 3})}, {-2, table(), of([]int{0, 3})}, {3, table(), of([]int{0, 3})}, {least, table(), of([]int{0, 3})}, {most, table(), of([]int{0, 3})},
		{1, solid(), of([]int{1, 3, 4}, numbered(12, 24)...)}, {-1, solid(), counted(1, 3, 4)}, {2, solid(), of([]int{0, 3, 4})}, {1, counted(3, 1, 2), of([]int{2, 1, 2}, 2, 3, 4, 5)}, {-2, counted(3, 1, 2), of([]int{1, 1, 2}, 0, 1)},
		{0, arr.Atom(5), nums(5)}, {1, arr.Atom(5), nums()}, {-1, arr.Atom(5), nums()}, {2, arr.Atom(5), nums()}, {least, arr.Atom(5), nums()}, {most, arr.Atom(5), nums()}, {0, atom(sign(97)), text("a")}, {0, atom(box(abc)), list(box(abc))}, {1, atom(box(abc)), nums()},
		{1, text("abc"), text("bc")}, {-1, text("abc"), text("ab")}, {1, mixed(), with([]int{1, 2}, m[2:]...)}, {-1, mixed(), with([]int{1, 2}, m[:2]...)}, {1, list(box(abc), number(2)), nums(2)}, {0, boxes(8, nums()), list(box(boxes(7, nums())))},
		{0, nums(), nums()}, {1, nums(), nums()}, {-1, nums(), nums()}, {least, nums(), nums()}, {1, of([]int{0, 3}), of([]int{0, 3})}, {-1, of([]int{0, 3}), of([]int{0, 3})}, {1, of([]int{3, 0}), of([]int{2, 0})}, {-2, of([]int{3, 0}), of([]int{1, 0})}, {3, of([]int{3, 0}), of([]int{0, 0})}, {5, of([]int{3, 0}), of([]int{0, 0})}, {1, of([]int{2, 0, 3}), of([]int{1, 0, 3})}, {-1, of([]int{full, 0, full}), of([]int{full - 1, 0, full})}, {7, of([]int{0, full, full, full, full, full, full, full}), of([]int{0, full, full, full, full, full, full, full})}, {7, of([]int{full, full, full, full, full, full, full, 0}), of([]int{full - 7, full, full, full, full, full, full, 0})}, {full, of([]int{full, full, full, full, full, full, full, 0}), of([]int{0, full, full, full, full, full, full, 0})},
		{1, of(eight(0), 3, 4), of([]int{1, 1, 1, 1, 1, 1, 1, 1}, 4)}, {-1, of(eight(0), 3, 4), of([]int{1, 1, 1, 1, 1, 1, 1, 1}, 3)}, {1, of(eight(7), 3, 4), of([]int{0, 1, 1, 1, 1, 1, 1, 2})}, {full - 1, counted(full), nums(full - 1)}, {1 - full, counted(full), nums(0)}, {full, counted(full), nums()}, {0, counted(full), counted(full)},
	}
	l := []twoCase{}
	for _, r := range rows {
		l = append(l, twoCase{api.Drop, arr.Atom(r.n), r.b, r.want, api.OK})
	}
	return l
}

// TestDrop: 6.1.
func TestDrop(t *testing.T) { expectTwos(t, dropCases()) }

// rotCases: 6.2.
func rotCases() []twoCase {
	abc := nums(7, 8, 9)
	m := mixed().Cells
	rows := []struct {
		n                  int64
		b, byFirst, byLast api.Arr
	}{
		{0, table(), table(), table()}, {1, table(), of([]int{2, 3}, 3, 4, 5, 0, 1, 2), of([]int{2, 3}, 1, 2, 0, 4, 5, 3)}, {2, table(), table(), of([]int{2, 3}, 2, 0, 1, 5, 3, 4)}, {3, table(), of([]int{2, 3}, 3, 4, 5, 0, 1, 2), table()}, {-1, table(), of([]int{2, 3}, 3, 4, 5, 0, 1, 2), of([]int{2, 3}, 2, 0, 1, 5, 3, 4)}, {6, table(), table(), table()}, {-7, table(), of([]int{2, 3}, 3, 4, 5, 0, 1, 2), of([]int{2, 3}, 2, 0, 1, 5, 3, 4)},
		// Counted round, 2^63 - 1 is 1 of 2 and of 3; -2^63 is 0 of 2 and 1 of 3.
		{most, table(), of([]int{2, 3}, 3, 4, 5, 0, 1, 2), of([]int{2, 3}, 1, 2, 0, 4, 5, 3)}, {least, table(), table(), of([]int{2, 3}, 1, 2, 0, 4, 5, 3)}, {least + 1, table(), of([]int{2, 3}, 3, 4, 5, 0, 1, 2), of([]int{2, 3}, 2, 0, 1, 5, 3, 4)},
		{1, solid(), of([]int{2, 3, 4}, append(numbered(12, 24), numbered(0, 12)...)...), of([]int{2, 3, 4}, 1, 2, 3, 0, 5, 6, 7, 4, 9, 10, 11, 8, 13, 14, 15, 12, 17, 18, 19, 16, 21, 22, 23, 20)}, {-1, solid(), of([]int{2, 3, 4}, append(numbered(12, 24), numbered(0, 12)...)...), of([]int{2, 3, 4}, 3, 0, 1, 2, 7, 4, 5, 6, 11, 8, 9, 10, 15, 12, 13, 14, 19, 16, 17, 18, 23, 20, 21, 22)},
		{1, counted(3, 1), of([]int{3, 1}, 1, 2, 0), counted(3, 1)}, {1, counted(1, 3), counted(1, 3), of([]int{1, 3}, 1, 2, 0)}, {1, mixed(), with([]int{2, 2}, m[2], m[3], m[0], m[1]), with([]int{2, 2}, m[1], m[0], m[3], m[2])},
		{1, of(eight(0), 3, 4), of(eight(0), 4, 3), of(eight(0), 3, 4)}, {1, of(eight(7), 3, 4), of(eight(7), 3, 4), of(eight(7), 4, 3)}, {1, of(eight(4), 3, 4), of(eight(4), 3, 4), of(eight(4), 3, 4)}, {-3, of(eight(0), 3, 4), of(eight(0), 4, 3), of(eight(0), 3, 4)},
	}
	l := []twoCase{}
	for _, r := range rows {
		l = append(l, twoCase{api.RotF, arr.Atom(r.n), r.b, r.byFirst, api.OK}, twoCase{api.RotL, arr.Atom(r.n), r.b, r.byLast, api.OK})
	}
	// Of a list the first axis is the last one.
	lists := map[int64]api.Arr{0: abc, 1: nums(8, 9, 7), 2: nums(9, 7, 8), 3: abc, 4: nums(8, 9, 7), 5: nums(9, 7, 8), -1: nums(9, 7, 8), -2: nums(8, 9, 7), -3: abc, -4: nums(9, 7, 8), -6: abc, full: nums(8, 9, 7), full + 1: nums(9, 7, 8), most: nums(8, 9, 7), most - 1: abc, least: nums(8, 9, 7), least + 1: nums(9, 7, 8), 1 << 32: nums(8, 9, 7)}
	for n, want := range lists {
		l = append(l, twoCase{api.RotF, arr.Atom(n), abc, want, api.OK}, twoCase{api.RotL, arr.Atom(n), abc, want, api.OK})
	}
	// These are themselves, however far they are rotated.
	for _, b := range []api.Arr{arr.Atom(5), atom(sign(97)), atom(box(abc)), boxes(8, nums()), nums(5), nums(), of([]int{0, 3}), of([]int{3, 0}), of([]int{0, 0}), of([]int{2, 0, 3}), of([]int{2, 3, 0}), of([]int{0, full, full, full, full, full, full, full}), of([]int{full, full, full, full, full, full, full, 0}), of([]int{full, full, full, 0, full, full, full, full}), of([]int{1, 1, 1, 1, 1, 1, 1, 1}, 5)} {
		for _, n := range []int64{0, 1, -1, 2, full, full + 1, most, least} {
			l = append(l, twoCase{api.RotF, arr.Atom(n), b, b, api.OK}, twoCase{api.RotL, arr.Atom(n), b, b, api.OK})
		}
	}
	return l
}

// TestRotate: 6.2.
func TestRotate(t *testing.T) { expectTwos(t, rotCases()) }

// catCases: 6.3, of which some are the same along the first axis and the last one.
func catCases() []twoCase {
	abc, de := nums(7, 8, 9), nums(5, 6)
	empty := []int{full, full, full, full, full, full, full, 0}
	rows := []struct {
		a, b, byFirst, byLast api.Arr
		errFirst, errLast     api.Errno
	}{
		{a: arr.Atom(1), b: arr.Atom(2), byFirst: nums(1, 2), byLast: nums(1, 2)}, {a: arr.Atom(1), b: atom(sign(97)), byFirst: list(number(1), sign(97)), byLast: list(number(1), sign(97))}, {a: atom(box(abc)), b: atom(box(de)), byFirst: list(box(abc), box(de)), byLast: list(box(abc), box(de))},
		{a: arr.Atom(1), b: abc, byFirst: nums(1, 7, 8, 9), byLast: nums(1, 7, 8, 9)}, {a: abc, b: arr.Atom(1), byFirst: nums(7, 8, 9, 1), byLast: nums(7, 8, 9, 1)}, {a: arr.Atom(1), b: nums(), byFirst: nums(1), byLast: nums(1)}, {a: nums(), b: arr.Atom(1), byFirst: nums(1), byLast: nums(1)}, {a: atom(box(de)), b: text("ab"), byFirst: list(box(de), sign(97), sign(98)), byLast: list(box(de), sign(97), sign(98))},
		{a: abc, b: de, byFirst: nums(7, 8, 9, 5, 6), byLast: nums(7, 8, 9, 5, 6)}, {a: abc, b: nums(), byFirst: abc, byLast: abc}, {a: nums(), b: abc, byFirst: abc, byLast: abc}, {a: nums(), b: nums(), byFirst: nums(), byLast: nums()}, {a: nums(4), b: nums(5), byFirst: nums(4, 5), byLast: nums(4, 5)},
		// Of two axes: an atom, a list, another one.
		{a: arr.Atom(9), b: table(), byFirst: of([]int{3, 3}, 9, 9, 9, 0, 1, 2, 3, 4, 5), byLast: of([]int{2, 4}, 9, 0, 1, 2, 9, 3, 4, 5)}, {a: table(), b: arr.Atom(9), byFirst: of([]int{3, 3}, 0, 1, 2, 3, 4, 5, 9, 9, 9), byLast: of([]int{2, 4}, 0, 1, 2, 9, 3, 4, 5, 9)},
		{a: abc, b: table(), byFirst: of([]int{3, 3}, 7, 8, 9, 0, 1, 2, 3, 4, 5), errLast: api.ErrLength}, {a: table(), b: abc, byFirst: of([]int{3, 3}, 0, 1, 2, 3, 4, 5, 7, 8, 9), errLast: api.ErrLength}, {a: de, b: table(), errFirst: api.ErrLength, byLast: of([]int{2, 4}, 5, 0, 1, 2, 6, 3, 4, 5)}, {a: table(), b: de, errFirst: api.ErrLength, byLast: of([]int{2, 4}, 0, 1, 2, 5, 3, 4, 5, 6)},
		{a: nums(1), b: table(), errFirst: api.ErrLength, errLast: api.ErrLength}, {a: nums(), b: table(), errFirst: api.ErrLength, errLast: api.ErrLength}, {a: de, b: counted(2, 2), byFirst: of([]int{3, 2}, 5, 6, 0, 1, 2, 3), byLast: of([]int{2, 3}, 5, 0, 1, 6, 2, 3)},
		{a: table(), b: of([]int{1, 3}, 7, 8, 9), byFirst: of([]int{3, 3}, 0, 1, 2, 3, 4, 5, 7, 8, 9), errLast: api.ErrLength}, {a: table(), b: of([]int{2, 1}, 7, 8), errFirst: api.ErrLength, byLast: of([]int{2, 4}, 0, 1, 2, 7, 3, 4, 5, 8)}, {a: table(), b: of([]int{2, 3}, 6, 7, 8, 9, 10, 11), byFirst: counted(4, 3), byLast: of([]int{2, 6}, 0, 1, 2, 6, 7, 8, 3, 4, 5, 9, 10, 11)}, {a: table(), b: counted(3, 2), errFirst: api.ErrLength, errLast: api.ErrLength}, {a: table(), b: counted(3, 4), errFirst: api.ErrLength, errLast: api.ErrLength},
		{a: mixed(), b: atom(box(de)), byFirst: with([]int{3, 2}, append(mixed().Cells, box(de), box(de))...), byLast: with([]int{2, 3}, mixed().Cells[0], mixed().Cells[1], box(de), mixed().Cells[2], mixed().Cells[3], box(de))},
		// Of three axes: one of one axis less, one of two less.
		{a: solid(), b: counted(3, 4), byFirst: of([]int{3, 3, 4}, append(numbered(0, 24), numbered(0, 12)...)...), errLast: api.ErrLength}, {a: counted(2, 3), b: counted(2, 3, 2), errFirst: api.ErrLength, byLast: of([]int{2, 3, 3}, 0, 0, 1, 1, 2, 3, 2, 4, 5, 3, 6, 7, 4, 8, 9, 5, 10, 11)}, {a: counted(2, 2), b: counted(2, 2, 2), byFirst: of([]int{3, 2, 2}, 0, 1, 2, 3, 0, 1, 2, 3, 4, 5, 6, 7), byLast: of([]int{2, 2, 3}, 0, 0, 1, 1, 2, 3, 2, 4, 5, 3, 6, 7)},
		{a: solid(), b: nums(1, 2, 3, 4), errFirst: api.ErrRank, errLast: api.ErrRank}, {a: nums(1, 2), b: solid(), errFirst: api.ErrRank, errLast: api.ErrRank}, {a: nums(), b: solid(), errFirst: api.ErrRank, errLast: api.ErrRank}, {a: nums(1), b: of([]int{2, 3, 0}), errFirst: api.ErrRank, errLast: api.ErrRank}, {a: nums(1), b: of(eight(0), 1, 2), errFirst: api.ErrRank, errLast: api.ErrRank}, {a: of(eight(0), 1, 2), b: table(), errFirst: api.ErrRank, errLast: api.ErrRank},
		{a: arr.Atom(9), b: solid(), byFirst: of([]int{3, 3, 4}, append(same(12, 9), numbered(0, 24)...)...), byLast: of([]int{2, 3, 5}, 9, 0, 1, 2, 3, 9, 4, 5, 6, 7, 9, 8, 9, 10, 11, 9, 12, 13, 14, 15, 9, 16, 17, 18, 19, 9, 20, 21, 22, 23)},
		// Unlike beside the axis in the middle alone.
		{a: counted(2, 3, 2), b: counted(2, 2, 2), errFirst: api.ErrLength, errLast: api.ErrLength}, {a: counted(1, 3, 2), b: counted(2, 3, 2), byFirst: of([]int{3, 3, 2}, append(numbered(0, 6), numbered(0, 12)...)...), errLast: api.ErrLength},
		// Of MaxRank axes.
		{a: of(eight(0), 1, 2), b: of(eight(0), 3, 4), byFirst: of([]int{4, 1, 1, 1, 1, 1, 1, 1}, 1, 2, 3, 4), byLast: of([]int{2, 1, 1, 1, 1, 1, 1, 2}, 1, 3, 2, 4)}, {a: of(eight(7), 1, 2), b: of([]int{1, 1, 1, 1, 1, 1, 1}, 3), errFirst: api.ErrLength, byLast: of([]int{1, 1, 1, 1, 1, 1, 1, 3}, 1, 2, 3)}, {a: of([]int{1, 1, 1, 1, 1, 1, 1}, 3), b: of(eight(0), 1, 2), byFirst: of([]int{3, 1, 1, 1, 1, 1, 1, 1}, 3, 1, 2), errLast: api.ErrLength}, {a: of(eight(3), 1, 2), b: arr.Atom(9), byFirst: of([]int{2, 1, 1, 2, 1, 1, 1, 1}, 1, 2, 9, 9), byLast: of([]int{1, 1, 1, 2, 1, 1, 1, 2}, 1, 9, 2, 9)}, {a: of(eight(0), 1, 2), b: of(eight(7), 3, 4), errFirst: api.ErrLength, errLast: api.ErrLength},
		// Of empty ones.
		{a: arr.Atom(9), b: of([]int{3, 0}), byFirst: of([]int{4, 0}), byLast: of([]int{3, 1}, 9, 9, 9)}, {a: of([]int{0, 3}), b: arr.Atom(9), byFirst: of([]int{1, 3}, 9, 9, 9), byLast: of([]int{0, 4})}, {a: arr.Atom(9), b: of([]int{2, 0, 2}), byFirst: of([]int{3, 0, 2}), byLast: of([]int{2, 0, 3})}, {a: atom(box(de)), b: of([]int{0, 0}), byFirst: of([]int{1, 0}), byLast: of([]int{0, 1})},
		{a: of([]int{0, 3}), b: table(), byFirst: table(), errLast: api.ErrLength}, {a: table(), b: of([]int{2, 0}), errFirst: api.ErrLength, byLast: table()}, {a: of([]int{2, 0}), b: table(), errFirst: api.ErrLength, byLast: table()}, {a: of([]int{0, 3}), b: of([]int{0, 3}), byFirst: of([]int{0, 3}), byLast: of([]int{0, 6})}, {a: of([]int{3, 0}), b: of([]int{3, 0}), byFirst: of([]int{6, 0}), byLast: of([]int{3, 0})}, {a: nums(), b: of([]int{2, 0}), byFirst: of([]int{3, 0}), errLast: api.ErrLength}, {a: nums(), b: of([]int{0, 2}), errFirst: api.ErrLength, byLast: of([]int{0, 3})}, {a: abc, b: of([]int{0, 3}), byFirst: of([]int{1, 3}, 7, 8, 9), errLast: api.ErrLength}, {a: of([]int{3, 0}), b: abc, errFirst: api.ErrLength, byLast: of([]int{3, 1}, 7, 8, 9)}, {a: of([]int{2, 0, 3}), b: of([]int{2, 0, 3}), byFirst: of([]int{4, 0, 3}), byLast: of([]int{2, 0, 6})},
		// Too large by cells, and by the axis.
		{a: counted(full), b: arr.Atom(1), errFirst: api.ErrCells, errLast: api.ErrCells}, {a: arr.Atom(1), b: counted(full), errFirst: api.ErrCells, errLast: api.ErrCells}, {a: counted(full), b: nums(), byFirst: counted(full), byLast: counted(full)}, {a: counted(full - 1), b: arr.Atom(full - 1), byFirst: counted(full), byLast: counted(full)}, {a: counted(full), b: counted(full), errFirst: api.ErrCells, errLast: api.ErrCells}, {a: counted(128, 128), b: arr.Atom(1), errFirst: api.ErrCells, errLast: api.ErrCells}, {a: counted(2, full/2-1), b: arr.Atom(5), errFirst: api.ErrCells, byLast: of([]int{2, full / 2}, slices.Concat(numbered(0, full/2-1), []int64{5}, numbered(full/2-1, full-2), []int64{5})...)}, {a: counted(full/2-1, 2), b: arr.Atom(5), byFirst: of([]int{full / 2, 2}, append(numbered(0, full-2), 5, 5)...), errLast: api.ErrCells}, {a: counted(1, full), b: counted(full), errFirst: api.ErrCells, errLast: api.ErrLength},
		{a: of([]int{full, 0}), b: of([]int{1, 0}), errFirst: api.ErrCells, errLast: api.ErrLength}, {a: of([]int{full, 0}), b: of([]int{full, 0}), errFirst: api.ErrCells, byLast: of([]int{full, 0})}, {a: of([]int{0, full}), b: of([]int{0, 1}), errFirst: api.ErrLength, errLast: api.ErrCells}, {a: of([]int{0, full}), b: arr.Atom(1), byFirst: of([]int{1, full}, same(full, 1)...), errLast: api.ErrCells}, {a: arr.Atom(1), b: of([]int{full, 0}), errFirst: api.ErrCells, byLast: of([]int{full, 1}, same(full, 1)...)}, {a: of([]int{full - 1, 0}), b: of([]int{1, 0}), byFirst: of([]int{full, 0}), errLast: api.ErrLength}, {a: of([]int{0, full, full}), b: arr.Atom(1), errFirst: api.ErrCells, errLast: api.ErrCells}, {a: arr.Atom(1), b: of([]int{full, full, 0}), errFirst: api.ErrCells, errLast: api.ErrCells}, {a: nums(), b: of([]int{full, 0}), errFirst: api.ErrCells, errLast: api.ErrLength},
		{a: of(empty), b: of(empty), errFirst: api.ErrCells, byLast: of(empty)}, {a: of([]int{5, full, full, full, full, full, full, 0}), b: of([]int{6, full, full, full, full, full, full, 0}), byFirst: of([]int{11, full, full, full, full, full, full, 0}), errLast: api.ErrLength}, {a: of([]int{0, full, full, full, full, full, full, 5}), b: of([]int{0, full, full, full, full, full, full, 6}), errFirst: api.ErrLength, byLast: of([]int{0, full, full, full, full, full, full, 11})}, {a: of(empty), b: arr.Atom(1), errFirst: api.ErrCells, errLast: api.ErrCells},
	}
	l := []twoCase{}
	for _, r := range rows {
		l = append(l, twoCase{api.CatF, r.a, r.b, r.byFirst, r.errFirst}, twoCase{api.CatL, r.a, r.b, r.byLast, r.errLast})
	}
	return l
}

// TestJoin: 6.3.
func TestJoin(t *testing.T) { expectTwos(t, catCases()) }

// fromCases: 6.4, each also as At, with its arguments exchanged.
func fromCases() []twoCase {
	abc := nums(7, 8, 9)
	m := mixed().Cells
	no := api.Arr{}
	rows := []struct {
		a, b, want api.Arr
		err        api.Errno
	}{
		{arr.Atom(0), abc, arr.Atom(7), api.OK}, {arr.Atom(2), abc, arr.Atom(9), api.OK}, {nums(2, 0), abc, nums(9, 7), api.OK}, {nums(1), abc, nums(8), api.OK}, {nums(1, 1, 1, 1), abc, nums(8, 8, 8, 8), api.OK}, {of([]int{2, 3}, 0, 1, 2, 2, 1, 0), abc, of([]int{2, 3}, 7, 8, 9, 9, 8, 7), api.OK}, {of([]int{1, 1}, 2), abc, of([]int{1, 1}, 9), api.OK},
		{arr.Atom(1), table(), nums(3, 4, 5), api.OK}, {nums(1), table(), of([]int{1, 3}, 3, 4, 5), api.OK}, {nums(1, 0, 1), table(), of([]int{3, 3}, 3, 4, 5, 0, 1, 2, 3, 4, 5), api.OK}, {of([]int{2, 2}, 1, 0, 0, 1), table(), of([]int{2, 2, 3}, 3, 4, 5, 0, 1, 2, 0, 1, 2, 3, 4, 5), api.OK}, {arr.Atom(1), solid(), of([]int{3, 4}, numbered(12, 24)...), api.OK}, {arr.Atom(0), mixed(), list(m[:2]...), api.OK}, {nums(1, 1), mixed(), with([]int{2, 2}, m[2], m[3], m[2], m[3]), api.OK}, {arr.Atom(1), text("abc"), atom(sign(98)), api.OK}, {arr.Atom(0), list(box(abc)), atom(box(abc)), api.OK},
		// Without cells: what is sought, and what it is sought in.
		{nums(), abc, nums(), api.OK}, {nums(), table(), of([]int{0, 3}), api.OK}, {of([]int{2, 0}), table(), of([]int{2, 0, 3}), api.OK}, {of([]int{0, 2}), abc, of([]int{0, 2}), api.OK}, {nums(), nums(), nums(), api.OK}, {nums(), of([]int{0, full, full}), of([]int{0, full, full}), api.OK}, {of([]int{full, 0}), of([]int{0, full, full}), of([]int{full, 0, full, full}), api.OK}, {arr.Atom(2), of([]int{3, 0}), nums(), api.OK}, {nums(2, 0), of([]int{3, 0}), of([]int{2, 0}), api.OK}, {nums(1, 1), of([]int{2, 0, 3}), of([]int{2, 0, 3}), api.OK}, {of([]int{full}, same(full, 1)...), of([]int{2, full, full, full, full, full, full, 0}), of([]int{full, full, full, full, full, full, full, 0}), api.OK},
		// No such item.
		{arr.Atom(3), abc, no, api.ErrIndex}, {arr.Atom(-1), abc, no, api.ErrIndex}, {arr.Atom(most), abc, no, api.ErrIndex}, {arr.Atom(least), abc, no, api.ErrIndex}, {arr.Atom(1 << 32), abc, no, api.ErrIndex}, {nums(0, 1, 3), abc, no, api.ErrIndex}, {nums(-1, 0), abc, no, api.ErrIndex}, {arr.Atom(2), table(), no, api.ErrIndex}, {arr.Atom(0), nums(), no, api.ErrIndex}, {nums(0), of([]int{0, 3}), no, api.ErrIndex}, {arr.Atom(3), of([]int{3, 0}), no, api.ErrIndex}, {nums(1), of([]int{1, 3}, 1, 2, 3), no, api.ErrIndex},
		// No numbers.
		{atom(sign(1)), abc, no, api.ErrDomain}, {text("ab"), abc, no, api.ErrDomain}, {atom(box(arr.Atom(1))), abc, no, api.ErrDomain}, {list(number(0), sign(0)), abc, no, api.ErrDomain}, {list(number(0), box(nums(1))), table(), no, api.ErrDomain}, {atom(sign(0)), nums(), no, api.ErrDomain},
		// Of the cells the first one that fails tells.
		{list(number(3), sign(0)), abc, no, api.ErrIndex}, {list(sign(0), number(3)), abc, no, api.ErrDomain}, {list(number(0), number(-1), box(nums(1))), abc, no, api.ErrIndex}, {list(number(0), box(nums(1)), number(-1)), abc, no, api.ErrDomain},
		// Of an atom.
		{arr.Atom(0), arr.Atom(5), no, api.ErrRank}, {nums(0), arr.Atom(5), no, api.ErrRank}, {nums(), arr.Atom(5), no, api.ErrRank}, {nums(5), atom(box(abc)), no, api.ErrRank}, {atom(sign(0)), arr.Atom(5), no, api.ErrRank}, {of(eight(0), 0, 0), arr.Atom(5), no, api.ErrRank},
		// Of MaxRank axes together, and of more.
		{arr.Atom(1), of(eight(0), 3, 4), of([]int{1, 1, 1, 1, 1, 1, 1}, 4), api.OK}, {nums(1, 0), of(eight(0), 3, 4), of(eight(0), 4, 3), api.OK}, {of([]int{1, 2}, 1, 0), of([]int{2, 1, 1, 1, 1, 1, 1}, 3, 4), of([]int{1, 2, 1, 1, 1, 1, 1, 1}, 3+1, 3), api.OK}, {of(eight(3), 1, 0), abc, of(eight(3), 8, 7), api.OK}, {of([]int{1, 1, 2, 1, 1, 1, 1}, 1, 0), table(), of([]int{1, 1, 2, 1, 1, 1, 1, 3}, 3, 4, 5, 0, 1, 2), api.OK},
		{of([]int{1, 1}, 0), of(eight(0), 3, 4), no, api.ErrRank}, {of(eight(3), 1, 0), table(), no, api.ErrRank}, {of([]int{0, 1}), of(eight(0), 3, 4), no, api.ErrRank}, {of([]int{1, 1}, 9), of(eight(0), 3, 4), no, api.ErrRank}, {with([]int{1, 1}, sign(9)), of(eight(0), 3, 4), no, api.ErrRank}, {of(eight(3), 1, 0), of([]int{0, 3}), no, api.ErrRank}, {of(eight(0), 0, 0), of(eight(0), 0, 0), no, api.ErrRank}, {of([]int{1, 1, 1, 1, 1}, 0), counted(1, 1, 1, 1, 1), no, api.ErrRank}, {of([]int{1, 1, 1, 1}, 0), counted(1, 1, 1, 1, 1), counted(1, 1, 1, 1, 1, 1, 1, 1), api.OK},
		// Of MaxCells together, and of more.
		{of([]int{full}, same(full, 2)...), abc, of([]int{full}, same(full, 9)...), api.OK}, {of([]int{128}, same(128, 1)...), of([]int{2, 128}, append(same(128, 1), same(128, 2)...)...), of([]int{128, 128}, same(full, 2)...), api.OK}, {of([]int{129}, same(129, 1)...), counted(2, 128), no, api.ErrCells}, {of([]int{full}, same(full, 0)...), counted(1, 2), no, api.ErrCells}, {nums(0, 0), counted(1, full), no, api.ErrCells}, {arr.Atom(0), counted(1, full), counted(full), api.OK}, {nums(0), counted(1, full), counted(1, full), api.OK}, {of([]int{full}, same(full, 0)...), counted(1, full), no, api.ErrCells},
		// What is wrong with the cells is ahead of that.
		{nums(0, 1), counted(1, full), no, api.ErrIndex}, {list(number(0), number(0), sign(0)), counted(1, full), no, api.ErrDomain},
	}
	l := []twoCase{}
	for _, r := range rows {
		l = append(l, twoCase{api.From, r.a, r.b, r.want, r.err}, twoCase{api.At, r.b, r.a, r.want, r.err})
	}
	return l
}

// TestFrom: 6.4.
func TestFrom(t *testing.T) { expectTwos(t, fromCases()) }

// repCases: 6.5.
func repCases() []twoCase {
	abc := nums(7, 8, 9)
	m := mixed().Cells
	rows := []struct {
		a, b, byFirst, byLast api.Arr
		errFirst, errLast     api.Errno
	}{
		{a: nums(1, 0, 2), b: abc, byFirst: nums(7, 9, 9), byLast: nums(7, 9, 9)}, {a: nums(0, 0, 0), b: abc, byFirst: nums(), byLast: nums()}, {a: nums(1, 1, 1), b: abc, byFirst: abc, byLast: abc}, {a: arr.Atom(2), b: abc, byFirst: nums(7, 7, 8, 8, 9, 9), byLast: nums(7, 7, 8, 8, 9, 9)}, {a: arr.Atom(0), b: abc, byFirst: nums(), byLast: nums()}, {a: arr.Atom(1), b: abc, byFirst: abc, byLast: abc},
		{a: nums(2, 1), b: table(), byFirst: of([]int{3, 3}, 0, 1, 2, 0, 1, 2, 3, 4, 5), errLast: api.ErrLength}, {a: nums(0, 2, 1), b: table(), errFirst: api.ErrLength, byLast: of([]int{2, 3}, 1, 1, 2, 4, 4, 5)}, {a: arr.Atom(2), b: table(), byFirst: of([]int{4, 3}, 0, 1, 2, 0, 1, 2, 3, 4, 5, 3, 4, 5), byLast: of([]int{2, 6}, 0, 0, 1, 1, 2, 2, 3, 3, 4, 4, 5, 5)}, {a: arr.Atom(0), b: table(), byFirst: of([]int{0, 3}), byLast: of([]int{2, 0})}, {a: nums(0, 0), b: table(), byFirst: of([]int{0, 3}), errLast: api.ErrLength}, {a: nums(1, 2), b: counted(2, 2), byFirst: of([]int{3, 2}, 0, 1, 2, 3, 2, 3), byLast: of([]int{2, 3}, 0, 1, 1, 2, 3, 3)},
		{a: nums(0, 1), b: solid(), byFirst: of([]int{1, 3, 4}, numbered(12, 24)...), errLast: api.ErrLength}, {a: nums(1, 0, 0, 2), b: solid(), errFirst: api.ErrLength, byLast: of([]int{2, 3, 3}, 0, 3, 3, 4, 7, 7, 8, 11, 11, 12, 15, 15, 16, 19, 19, 20, 23, 23)}, {a: nums(1, 2), b: mixed(), byFirst: with([]int{3, 2}, m[0], m[1], m[2], m[3], m[2], m[3]), byLast: with([]int{2, 3}, m[0], m[1], m[1], m[2], m[3], m[3])}, {a: nums(2, 0), b: list(box(abc), number(1)), byFirst: list(box(abc), box(abc)), byLast: list(box(abc), box(abc))},
		// Of an atom: it is a list of one.
		{a: arr.Atom(3), b: arr.Atom(5), byFirst: nums(5, 5, 5), byLast: nums(5, 5, 5)}, {a: nums(3), b: arr.Atom(5), byFirst: nums(5, 5, 5), byLast: nums(5, 5, 5)}, {a: arr.Atom(0), b: arr.Atom(5), byFirst: nums(), byLast: nums()}, {a: arr.Atom(1), b: arr.Atom(5), byFirst: nums(5), byLast: nums(5)}, {a: arr.Atom(2), b: atom(box(abc)), byFirst: list(box(abc), box(abc)), byLast: list(box(abc), box(abc))}, {a: nums(1, 1), b: arr.Atom(5), errFirst: api.ErrLength, errLast: api.ErrLength}, {a: nums(), b: arr.Atom(5), errFirst: api.ErrLength, errLast: api.ErrLength}, {a: arr.Atom(full), b: atom(sign(97)), byFirst: with([]int{full}, slices.Repeat([]api.Cell{sign(97)}, full)...), byLast: with([]int{full}, slices.Repeat([]api.Cell{sign(97)}, full)...)}, {a: arr.Atom(full + 1), b: arr.Atom(5), errFirst: api.ErrCells, errLast: api.ErrCells},
		// Of another length: a list of one is no atom.
		{a: nums(2), b: abc, errFirst: api.ErrLength, errLast: api.ErrLength}, {a: nums(1, 1), b: abc, errFirst: api.ErrLength, errLast: api.ErrLength}, {a: nums(1, 1, 1, 1), b: abc, errFirst: api.ErrLength, errLast: api.ErrLength}, {a: nums(), b: abc, errFirst: api.ErrLength, errLast: api.ErrLength}, {a: nums(1), b: nums(), errFirst: api.ErrLength, errLast: api.ErrLength}, {a: nums(most, 1), b: abc, errFirst: api.ErrLength, errLast: api.ErrLength}, {a: nums(most), b: counted(1, full), errLast: api.ErrLength, errFirst: api.ErrCells},
		// Of more than one axis, which is ahead of all.
		{a: of([]int{1, 3}, 1, 1, 1), b: abc, errFirst: api.ErrRank, errLast: api.ErrRank}, {a: of([]int{0, 3}), b: nums(), errFirst: api.ErrRank, errLast: api.ErrRank}, {a: of([]int{1, 1}, -1), b: abc, errFirst: api.ErrRank, errLast: api.ErrRank}, {a: with([]int{1, 1}, sign(97)), b: arr.Atom(1), errFirst: api.ErrRank, errLast: api.ErrRank}, {a: of(eight(0), 1, 1), b: nums(1, 2), errFirst: api.ErrRank, errLast: api.ErrRank}, {a: of([]int{2, 1}, most, most), b: table(), errFirst: api.ErrRank, errLast: api.ErrRank},
		// No numbers, or some below 0: ahead of the length, and of how many come.
		{a: arr.Atom(-1), b: abc, errFirst: api.ErrDomain, errLast: api.ErrDomain}, {a: arr.Atom(least), b: abc, errFirst: api.ErrDomain, errLast: api.ErrDomain}, {a: nums(1, -1, 1), b: abc, errFirst: api.ErrDomain, errLast: api.ErrDomain}, {a: atom(sign(1)), b: abc, errFirst: api.ErrDomain, errLast: api.ErrDomain}, {a: text("abc"), b: abc, errFirst: api.ErrDomain, errLast: api.ErrDomain}, {a: atom(box(arr.Atom(1))), b: abc, errFirst: api.ErrDomain, errLast: api.ErrDomain}, {a: list(number(1), number(1), box(nums(1))), b: abc, errFirst: api.ErrDomain, errLast: api.ErrDomain}, {a: nums(-1), b: abc, errFirst: api.ErrDomain, errLast: api.ErrDomain}, {a: nums(1, 1, 1, 1, 1, -1), b: abc, errFirst: api.ErrDomain, errLast: api.ErrDomain}, {a: nums(most, most, -1), b: abc, errFirst: api.ErrDomain, errLast: api.ErrDomain}, {a: list(number(most), sign(97)), b: abc, errFirst: api.ErrDomain, errLast: api.ErrDomain}, {a: arr.Atom(-1), b: nums(), errFirst: api.ErrDomain, errLast: api.ErrDomain}, {a: atom(sign(1)), b: of([]int{0, 3}), errFirst: api.ErrDomain, errLast: api.ErrDomain},
		// More than MaxCells places.
		{a: nums(full, 0, 0), b: abc, byFirst: of([]int{full}, same(full, 7)...), byLast: of([]int{full}, same(full, 7)...)}, {a: nums(0, 1, full-1), b: abc, byFirst: of([]int{full}, append([]int64{8}, same(full-1, 9)...)...), byLast: of([]int{full}, append([]int64{8}, same(full-1, 9)...)...)}, {a: nums(full, 1, 0), b: abc, errFirst: api.ErrCells, errLast: api.ErrCells}, {a: nums(1, 1, full-1), b: abc, errFirst: api.ErrCells, errLast: api.ErrCells}, {a: nums(most, most, 2), b: abc, errFirst: api.ErrCells, errLast: api.ErrCells}, {a: nums(0, most, 0), b: abc, errFirst: api.ErrCells, errLast: api.ErrCells}, {a: nums(1<<32, 0, 0), b: abc, errFirst: api.ErrCells, errLast: api.ErrCells}, {a: arr.Atom(most), b: abc, errFirst: api.ErrCells, errLast: api.ErrCells}, {a: arr.Atom(full/3 + 1), b: abc, errFirst: api.ErrCells, errLast: api.ErrCells}, {a: arr.Atom(2), b: counted(full/2 + 1), errFirst: api.ErrCells, errLast: api.ErrCells}, {a: arr.Atom(most), b: of([]int{3, 0}), errFirst: api.ErrCells, byLast: of([]int{3, 0})}, {a: arr.Atom(full/3 + 1), b: of([]int{3, 0}), errFirst: api.ErrCells, byLast: of([]int{3, 0})}, {a: arr.Atom(2), b: of([]int{0, full}), byFirst: of([]int{0, full}), errLast: api.ErrCells}, {a: nums(full, 0, 1), b: of([]int{3, 0}), errFirst: api.ErrCells, errLast: api.ErrLength},
		// No more places, but more cells.
		{a: arr.Atom(full / 2), b: counted(1, 2), byFirst: of([]int{full / 2, 2}, slices.Repeat([]int64{0, 1}, full/2)...), byLast: of([]int{1, full}, append(same(full/2, 0), same(full/2, 1)...)...)}, {a: arr.Atom(full/2 + 1), b: counted(1, 2), errFirst: api.ErrCells, errLast: api.ErrCells}, {a: arr.Atom(full), b: counted(2, 1), errFirst: api.ErrCells, errLast: api.ErrCells}, {a: arr.Atom(2), b: counted(127, 127), errFirst: api.ErrCells, errLast: api.ErrCells}, {a: nums(full-1, 0), b: table(), errFirst: api.ErrCells, errLast: api.ErrLength}, {a: nums(0, 0, full), b: table(), errFirst: api.ErrLength, errLast: api.ErrCells},
		// Of empty ones: what an atom says is said for no place.
		{a: arr.Atom(5), b: nums(), byFirst: nums(), byLast: nums()}, {a: arr.Atom(most), b: nums(), byFirst: nums(), byLast: nums()}, {a: nums(), b: nums(), byFirst: nums(), byLast: nums()}, {a: arr.Atom(2), b: of([]int{0, 3}), byFirst: of([]int{0, 3}), byLast: of([]int{0, 6})}, {a: nums(1, 2, 3), b: of([]int{0, 3}), errFirst: api.ErrLength, byLast: of([]int{0, 6})}, {a: nums(), b: of([]int{0, 3}), byFirst: of([]int{0, 3}), errLast: api.ErrLength}, {a: nums(1, 2, 3), b: of([]int{3, 0}), byFirst: of([]int{6, 0}), errLast: api.ErrLength}, {a: nums(), b: of([]int{3, 0}), errFirst: api.ErrLength, byLast: of([]int{3, 0})}, {a: arr.Atom(2), b: of([]int{2, 0, 3}), byFirst: of([]int{4, 0, 3}), byLast: of([]int{2, 0, 6})}, {a: arr.Atom(1), b: of([]int{full, 0, full}), byFirst: of([]int{full, 0, full}), byLast: of([]int{full, 0, full})}, {a: arr.Atom(0), b: of([]int{2, 0, 3}), byFirst: of([]int{0, 0, 3}), byLast: of([]int{2, 0, 0})}, {a: arr.Atom(3), b: of([]int{full, full, full, 0, full, full, full, 2}), errFirst: api.ErrCells, byLast: of([]int{full, full, full, 0, full, full, full, 6})}, {a: arr.Atom(0), b: counted(full), byFirst: nums(), byLast: nums()},
		// Of MaxRank axes.
		{a: nums(1, 2), b: of(eight(0), 3, 4), byFirst: of([]int{3, 1, 1, 1, 1, 1, 1, 1}, 3, 4, 4), errLast: api.ErrLength}, {a: nums(2, 1), b: of(eight(7), 3, 4), errFirst: api.ErrLength, byLast: of([]int{1, 1, 1, 1, 1, 1, 1, 3}, 3, 3, 4)}, {a: nums(2), b: of(eight(4), 3, 4), byFirst: of([]int{2, 1, 1, 1, 2, 1, 1, 1}, 3, 4, 3, 4), byLast: of([]int{1, 1, 1, 1, 2, 1, 1, 2}, 3, 3, 4, 4)},
	}
	l := []twoCase{}
	for _, r := range rows {
		l = append(l, twoCase{api.RepF, r.a, r.b, r.byFirst, r.errFirst}, twoCase{api.RepL, r.a, r.b, r.byLast, r.errLast})
	}
	return l
}

// TestRepeat: 6.5.
func TestRepeat(t *testing.T) { expectTwos(t, repCases()) }

// twoCases are all of them.
func twoCases() []twoCase {
	return slices.Concat(takeCases(), dropCases(), rotCases(), catCases(), fromCases(), repCases())
}

// wrongArray may not be, or may not stand somewhere.
type wrongArray struct {
	a   api.Arr
	err api.Errno
}

func wrongArrays() []wrongArray {
	return []wrongArray{
		{api.Arr{}, api.ErrArg},
		{of(nil, 1, 2), api.ErrArg},
		{of([]int{2}, 1), api.ErrArg},
		{of([]int{0, 3}, 1), api.ErrArg},
		{of([]int{-1}), api.ErrArg},
		{of([]int{1, 1, 1, 1, 1, 1, 1, 1, 1}, 1), api.ErrRank},
		{of([]int{1, 1, 1, 1, 1, 1, 1, 1, 0}), api.ErrRank},
		{of([]int{16385}), api.ErrCells},
		{of([]int{16385, 0}), api.ErrCells},
		{boxes(9, arr.Atom(1)), api.ErrDeep},
		{atom(api.Cell{Kind: 3}), api.ErrArg},
		{list(number(1), api.Cell{Kind: -1}), api.ErrArg},
		{list(sign(97), sign(0xd800)), api.ErrArg},
		{list(number(1), api.Cell{Kind: api.CBox}), api.ErrArg},
		{atom(api.Cell{Kind: api.CBox, Box: []api.Arr{arr.Atom(1), arr.Atom(2)}}), api.ErrArg},
		{list(api.Cell{Kind: api.CInt, Box: []api.Arr{arr.Atom(1)}}), api.ErrArg},
		{atom(box(of([]int{16385}))), api.ErrCells},
	}
}

// goodArrays may be.
func goodArrays() []api.Arr {
	return []api.Arr{arr.Atom(0), arr.Atom(-1), arr.Atom(most), nums(), nums(1, 2), atom(sign(97)), boxes(8, nums()), of([]int{0, 3}), of([]int{3, 0}), of(eight(0), 1, 2), table()}
}

// TestWrong: a's error, then b's, ahead of all others, whatever is asked for.
func TestWrong(t *testing.T) {
	for _, op := range anyOps() {
		for _, w := range wrongArrays() {
			for _, other := range goodArrays() {
				got, e := pick.Dy(op, w.a, other)
				expect(t, "by what may not be", got, e, api.Arr{}, w.err)
				got, e = pick.Dy(op, other, w.a)
				expect(t, "of what may not be", got, e, api.Arr{}, w.err)
			}
			for _, other := range wrongArrays() {
				got, e := pick.Dy(op, w.a, other.a)
				expect(t, "of both that may not be", got, e, api.Arr{}, w.err)
			}
		}
	}
}

// TestNone: numbers that name none of the functions of this layer.
func TestNone(t *testing.T) {
	for _, op := range anyOps() {
		if slices.Contains(twos(), op) {
			continue
		}
		for _, a := range goodArrays() {
			for _, b := range goodArrays() {
				got, e := pick.Dy(op, a, b)
				expect(t, "by a number that names none", got, e, api.Arr{}, api.ErrArg)
			}
		}
	}
}

// shapes are those of many ranks, empty ones and full ones among them.
func shapes() [][]int {
	return [][]int{
		nil, {0}, {1}, {2}, {7}, {16384}, {1, 1}, {2, 3}, {3, 2}, {5, 1}, {1, 5}, {0, 3}, {3, 0}, {0, 0}, {2, 3, 4}, {4, 3, 2}, {3, 1, 2}, {2, 0, 3}, {0, 2, 3}, {2, 3, 0}, {128, 128}, {2, 2, 2, 2, 2, 2, 2, 2}, {1, 1, 1, 1, 1, 1, 1, 1}, {3, 1, 2, 1, 4, 1, 2, 3}, {16384, 0, 16384}, {2, 3, 2, 3, 2, 3, 2}, {3, 2, 1, 2, 0, 2, 1, 2},
	}
}

// filled is an array of a shape with cells of all kinds by chance.
func filled(r *rand.Rand, shape []int) api.Arr {
	size, _ := arr.Size(shape)
	a := api.Arr{Shape: shape, Cells: make([]api.Cell, size)}
	for i := range a.Cells {
		switch n := r.Int63n(50000); r.Intn(5) {
		case 0:
			a.Cells[i] = sign(n)
		case 1:
			a.Cells[i] = box(list(number(n), box(arr.Atom(n)), sign(97)))
		default:
			a.Cells[i] = number(r.Int63() - r.Int63())
		}
	}
	return a
}

// laid is an array of a shape, place by place.
func laid(shape []int, by func(at []int) api.Cell) api.Arr {
	size, _ := arr.Size(shape)
	out := api.Arr{Shape: shape, Cells: make([]api.Cell, size)}
	for i := range out.Cells {
		at, _ := arr.Places(shape, i)
		out.Cells[i] = by(at)
	}
	return out
}

// cellAt is the cell at places of an array.
func cellAt(a api.Arr, at []int) api.Cell {
	i, _ := arr.Place(a.Shape, at)
	return a.Cells[i]
}

// long is a shape of which an axis has another length.
func long(shape []int, axis, n int) []int {
	out := slices.Clone(shape)
	out[axis] = n
	return out
}

// listed is an atom as a list of one.
func listed(a api.Arr) api.Arr {
	if len(a.Shape) == 0 {
		return list(a.Cells...)
	}
	return a
}

// wantTake and wantDrop are 6.1, said again by places.
func wantTake(n int, b api.Arr) (api.Arr, api.Errno) {
	b = listed(b)
	shape := long(b.Shape, 0, max(n, -n))
	if _, e := arr.Size(shape); e != api.OK {
		return api.Arr{}, e
	}
	fill := number(0)
	if len(b.Cells) > 0 && b.Cells[0].Kind == api.CChar {
		fill = sign(32)
	}
	if shape[0] > b.Shape[0] && len(b.Cells) > 0 && b.Cells[0].Kind == api.CBox {
		return api.Arr{}, api.ErrDomain
	}
	return laid(shape, func(at []int) api.Cell {
		if n < 0 {
			at[0] += b.Shape[0] + n
		}
		if at[0] < 0 || at[0] >= b.Shape[0] {
			return fill
		}
		return cellAt(b, at)
	}), api.OK
}

func wantDrop(n int, b api.Arr) api.Arr {
	b = listed(b)
	return laid(long(b.Shape, 0, max(b.Shape[0]-max(n, -n), 0)), func(at []int) api.Cell {
		at[0] += max(n, 0)
		return cellAt(b, at)
	})
}

// wantRot is 6.2, said again by places.
func wantRot(n int, b api.Arr, axis int) api.Arr {
	return laid(b.Shape, func(at []int) api.Cell {
		if len(at) > 0 {
			for at[axis] += n; at[axis] < 0; at[axis] += b.Shape[axis] {
			}
			at[axis] %= b.Shape[axis]
		}
		return cellAt(b, at)
	})
}

// TestPlacesByNumber: 6.1 and 6.2 of arrays of many shapes, place by place.
func TestPlacesByNumber(t *testing.T) {
	r := rand.New(rand.NewSource(61))
	for _, shape := range shapes() {
		b := filled(r, shape)
		for _, n := range []int{0, 1, -1, 2, -2, 3, -3, 4, -4, 6, -7, 8, -8, 127, 129, -128, 16383, -16384} {
			by := arr.Atom(int64(n))
			got, e := pick.Dy(api.Take, by, b)
			want, wantErr := wantTake(n, b)
			expect(t, "Take", got, e, want, wantErr)
			got, e = pick.Dy(api.Drop, by, b)
			expect(t, "Drop", got, e, wantDrop(n, b), api.OK)
			got, e = pick.Dy(api.RotF, by, b)
			expect(t, "RotF", got, e, wantRot(n, b, 0), api.OK)
			got, e = pick.Dy(api.RotL, by, b)
			expect(t, "RotL", got, e, wantRot(n, b, len(shape)-1), api.OK)
		}
	}
}

// wantCat is 6.3, said again by places: a shape's part along the axis is told by whether the place is within it.
func wantCat(a, b api.Arr, last bool) (api.Arr, api.Errno) {
	rank := max(len(a.Shape), len(b.Shape), 1)
	axis := 0
	if last {
		axis = rank - 1
	}
	for _, x := range []api.Arr{a, b} {
		if len(x.Shape) > 0 && len(x.Shape) < rank-1 {
			return api.Arr{}, api.ErrRank
		}
	}
	one, two := standing(a, b, rank, axis), standing(b, a, rank, axis)
	if !slices.Equal(long(one, axis, 0), long(two, axis, 0)) {
		return api.Arr{}, api.ErrLength
	}
	shape := long(one, axis, one[axis]+two[axis])
	if _, e := arr.Size(shape); e != api.OK || shape[axis] > full {
		return api.Arr{}, api.ErrCells
	}
	return laid(shape, func(at []int) api.Cell {
		from := a
		if at[axis] >= one[axis] {
			at[axis] -= one[axis]
			from = b
		}
		switch len(from.Shape) {
		case 0:
			return from.Cells[0]
		case rank - 1:
			return cellAt(from, slices.Delete(at, axis, axis+1))
		}
		return cellAt(from, at)
	}), api.OK
}

// standing is the shape in which a stands beside b.
func standing(a, b api.Arr, rank, axis int) []int {
	switch {
	case len(a.Shape) == rank:
		return a.Shape
	case len(a.Shape) == 0 && len(b.Shape) == 0:
		return []int{1}
	case len(a.Shape) == 0:
		return long(b.Shape, axis, 1)
	}
	return slices.Concat(a.Shape[:axis], []int{1}, a.Shape[axis:])
}

// besides are shapes that may stand to be joined with one of the given shape, or may just not.
func besides(shape []int) [][]int {
	l := [][]int{nil, {0}, {1}, {3}, shape}
	for i := range shape {
		without := slices.Delete(slices.Clone(shape), i, i+1)
		l = append(l, without, long(shape, i, 0), long(shape, i, 1), long(shape, i, 2), long(shape, i, 4))
		if len(without) > 0 {
			l = append(l, long(without, 0, 2))
		}
		if len(shape) < api.MaxRank {
			l = append(l, slices.Insert(slices.Clone(shape), i, 1), slices.Insert(slices.Clone(shape), i, 2))
		}
	}
	return slices.DeleteFunc(l, func(s []int) bool {
		_, e := arr.Size(s)
		return e != api.OK
	})
}

// TestPlacesJoined: 6.3 of arrays of many shapes, place by place.
func TestPlacesJoined(t *testing.T) {
	r := rand.New(rand.NewSource(63))
	for _, shape := range shapes() {
		a := filled(r, shape)
		for _, other := range besides(shape) {
			b := filled(r, other)
			got, e := pick.Dy(api.CatF, a, b)
			want, wantErr := wantCat(a, b, false)
			expect(t, "CatF", got, e, want, wantErr)
			got, e = pick.Dy(api.CatL, a, b)
			want, wantErr = wantCat(a, b, true)
			expect(t, "CatL", got, e, want, wantErr)
		}
	}
}

// wantFrom is 6.4 where a is of numbers, said again by places.
func wantFrom(a, b api.Arr) (api.Arr, api.Errno) {
	if len(b.Shape) == 0 || len(a.Shape)+len(b.Shape) > api.MaxRank+1 {
		return api.Arr{}, api.ErrRank
	}
	for _, c := range a.Cells {
		if c.N < 0 || c.N >= int64(b.Shape[0]) {
			return api.Arr{}, api.ErrIndex
		}
	}
	shape := slices.Concat(a.Shape, b.Shape[1:])
	if _, e := arr.Size(shape); e != api.OK {
		return api.Arr{}, e
	}
	return laid(shape, func(at []int) api.Cell {
		n := cellAt(a, at[:len(a.Shape)]).N
		return cellAt(b, append([]int{int(n)}, at[len(a.Shape):]...))
	}), api.OK
}

// TestPlacesFrom: 6.4 of arrays of many shapes by others, place by place.
func TestPlacesFrom(t *testing.T) {
	r := rand.New(rand.NewSource(64))
	for _, shape := range shapes() {
		b := filled(r, shape)
		for _, by := range shapes() {
			size, _ := arr.Size(by)
			a := api.Arr{Shape: by, Cells: make([]api.Cell, size)}
			for i := range a.Cells {
				a.Cells[i].N = r.Int63n(int64(max(listed(b).Shape[0], 1)))
			}
			want, wantErr := wantFrom(a, b)
			got, e := pick.Dy(api.From, a, b)
			expect(t, "From", got, e, want, wantErr)
			got, e = pick.Dy(api.At, b, a)
			expect(t, "At", got, e, want, wantErr)
		}
	}
}

// wantRep is 6.5 where a is of numbers from 0 up, one for each place, said again by places.
func wantRep(a []int64, b api.Arr, axis int) (api.Arr, api.Errno) {
	places := []int{}
	for i, often := range a {
		for range often {
			places = append(places, i)
		}
	}
	shape := long(b.Shape, axis, len(places))
	if _, e := arr.Size(shape); e != api.OK || len(places) > full {
		return api.Arr{}, api.ErrCells
	}
	return laid(shape, func(at []int) api.Cell {
		at[axis] = places[at[axis]]
		return cellAt(b, at)
	}), api.OK
}

// TestPlacesRepeated: 6.5 of arrays of many shapes, place by place.
func TestPlacesRepeated(t *testing.T) {
	r := rand.New(rand.NewSource(65))
	for _, shape := range shapes() {
		b := filled(r, shape)
		as := listed(b)
		for op, axis := range map[int]int{api.RepF: 0, api.RepL: len(as.Shape) - 1} {
			for range 3 {
				a := same(as.Shape[axis], 0)
				for i := range a {
					a[i] = r.Int63n(3)
				}
				got, e := pick.Dy(op, nums(a...), b)
				want, wantErr := wantRep(a, as, axis)
				expect(t, "repeated by a list", got, e, want, wantErr)
			}
			for n := range int64(4) {
				got, e := pick.Dy(op, arr.Atom(n), b)
				want, wantErr := wantRep(same(as.Shape[axis], n), as, axis)
				expect(t, "repeated by an atom", got, e, want, wantErr)
			}
		}
	}
}

// dy is an answer where no error is asked for.
func dy(t *testing.T, op int, a, b api.Arr) api.Arr {
	t.Helper()
	out, e := pick.Dy(op, a, b)
	if e != api.OK {
		t.Fatalf("Dy(%d, %v, %v): %v", op, short(a), short(b), e)
	}
	return out
}

// TestFollows: 6.6: what is taken and what is left are the array; rotations add up.
func TestFollows(t *testing.T) {
	r := rand.New(rand.NewSource(66))
	for _, shape := range shapes() {
		b := filled(r, shape)
		many := listed(b).Shape[0]
		for _, n := range []int{0, 1, 2, many / 2, many - 1, many} {
			if n < 0 || n > many {
				continue
			}
			by, less := arr.Atom(int64(n)), arr.Atom(int64(-n))
			expect(t, "taken, and what is left", dy(t, api.CatF, dy(t, api.Take, by, b), dy(t, api.Drop, by, b)), api.OK, listed(b), api.OK)
			expect(t, "left, and what is taken", dy(t, api.CatF, dy(t, api.Drop, less, b), dy(t, api.Take, less, b)), api.OK, listed(b), api.OK)
		}
		for range 5 {
			one, two := (r.Int63()-r.Int63())/2, r.Int63n(40)-20
			for _, op := range []int{api.RotF, api.RotL} {
				expect(t, "rotated twice", dy(t, op, arr.Atom(one), dy(t, op, arr.Atom(two), b)), api.OK, dy(t, op, arr.Atom(one+two), b), api.OK)
				expect(t, "rotated back", dy(t, op, arr.Atom(-one), dy(t, op, arr.Atom(one), b)), api.OK, b, api.OK)
			}
		}
	}
}

// TestMayBe: 6.6 and P1: whatever comes of arrays that may be may be.
func TestMayBe(t *testing.T) {
	r := rand.New(rand.NewSource(67))
	all := slices.Concat(goodArrays(), []api.Arr{arr.Atom(2), arr.Atom(-3), nums(0, 1, 1), mixed(), solid(), boxes(3, solid()), of([]int{0, full, full, full, full, full, full, full}), of([]int{full, full, full, full, full, full, full, 0}), counted(full)})
	for _, shape := range shapes() {
		all = append(all, filled(r, shape))
	}
	for _, op := range twos() {
		for _, a := range all {
			for _, b := range all {
				got, e := pick.Dy(op, a, b)
				if e == api.OK && arr.Check(got) != api.OK || e != api.OK && !alike(got, api.Arr{}) {
					t.Errorf("Dy(%d, %v, %v): %v, %v", op, short(a), short(b), short(got), e)
				}
			}
		}
	}
}

// spoil changes all that an array holds, and what lies behind its lists.
func spoil(a api.Arr) {
	shape := a.Shape[:cap(a.Shape)]
	for i := range shape {
		shape[i] = 77
	}
	cells := a.Cells[:cap(a.Cells)]
	for i := range cells {
		within := cells[i].Box[:cap(cells[i].Box)]
		for k := range within {
			spoil(within[k])
			within[k] = arr.Atom(77)
		}
		cells[i] = api.Cell{Kind: 77, N: 77}
	}
}

// TestStays: R3 and P7: what came in stays as it was, an answer shares nothing with it, nor with another answer, and is alike each time.
func TestStays(t *testing.T) {
	for _, c := range twoCases() {
		a, b, want := arr.Copy(c.a), arr.Copy(c.b), arr.Copy(c.want)
		got, e := pick.Dy(c.op, a, b)
		second, err := pick.Dy(c.op, a, b)
		if !alike(a, c.a) || !alike(b, c.b) || !alike(got, second) || e != err {
			t.Errorf("Dy(%d, %v, %v) changed them", c.op, short(c.a), short(c.b))
		}
		spoil(got)
		if !alike(a, c.a) || !alike(b, c.b) || c.err == api.OK && !alike(second, want) {
			t.Errorf("Dy(%d, %v, %v): what it answers is shared", c.op, short(c.a), short(c.b))
		}
		spoil(a)
		spoil(b)
		if c.err == api.OK && !alike(second, want) {
			t.Errorf("Dy(%d, %v, %v): it answers what came in", c.op, short(c.a), short(c.b))
		}
	}
}

// TestOwnBoxes: R3: a box that stands in several places has memory of its own in each.
func TestOwnBoxes(t *testing.T) {
	b := boxes(3, nums(1, 2))
	for _, c := range []twoCase{
		{op: api.RepF, a: arr.Atom(3), b: b}, {op: api.RepL, a: nums(3), b: list(b.Cells...)}, {op: api.From, a: nums(0, 0, 0), b: list(b.Cells...)}, {op: api.At, a: list(b.Cells...), b: nums(0, 0, 0)}, {op: api.CatF, a: b, b: of([]int{0, 3})}, {op: api.CatL, a: of([]int{3, 0}), b: b}, {op: api.CatF, a: b, b: list(b.Cells[0], b.Cells[0])}, {op: api.CatL, a: list(b.Cells[0], b.Cells[0]), b: b},
	} {
		got := dy(t, c.op, c.a, c.b)
		if len(got.Cells) != 3 {
			t.Fatalf("Dy(%d, ..): %v", c.op, got)
		}
		spoil(got.Cells[1].Box[0])
		for _, i := range []int{0, 2} {
			expect(t, "another", atom(got.Cells[i]), api.OK, boxes(3, nums(1, 2)), api.OK)
		}
		expect(t, "what came in", b, api.OK, boxes(3, nums(1, 2)), api.OK)
	}
}

// TestOneTwice: R3: one array as both arguments stays, too.
func TestOneTwice(t *testing.T) {
	for op, want := range map[int]api.Arr{api.CatF: nums(1, 0, 1, 0), api.CatL: nums(1, 0, 1, 0), api.From: nums(0, 1), api.At: nums(0, 1), api.RepF: nums(1), api.RepL: nums(1)} {
		a := nums(1, 0)
		got, e := pick.Dy(op, a, a)
		expect(t, "of one array twice", got, e, want, api.OK)
		spoil(got)
		expect(t, "that array", a, api.OK, nums(1, 0), api.OK)
	}
}

// TestBehind: R3: what lies behind the lists' lengths is neither read, nor written, nor handed out.
func TestBehind(t *testing.T) {
	for _, op := range twos() {
		for _, ranks := range [][2]int{{0, 0}, {0, 1}, {1, 0}, {0, 2}, {1, 1}, {1, 2}, {2, 1}, {2, 2}} {
			one, two := []int{2, 2, 5}, []int{2, 2, 6}
			counts := []api.Cell{number(1), number(0), number(1), number(1), sign(97)}
			cells := []api.Cell{number(1), box(nums(2)), sign(97), number(0), number(least)}
			a := api.Arr{Shape: one[:ranks[0]], Cells: counts[:1<<ranks[0]]}
			b := api.Arr{Shape: two[:ranks[1]], Cells: cells[:1<<ranks[1]]}
			got, e := pick.Dy(op, a, b)
			want, wantErr := pick.Dy(op, arr.Copy(a), arr.Copy(b))
			expect(t, "Dy", got, e, want, wantErr)
			spoil(got)
			if !slices.Equal(one, []int{2, 2, 5}) || !slices.Equal(two, []int{2, 2, 6}) || !alike(list(counts...), list(number(1), number(0), number(1), number(1), sign(97))) || !alike(list(cells...), list(number(1), box(nums(2)), sign(97), number(0), number(least))) {
				t.Errorf("Dy(%d, ..) changed: %v, %v, %v, %v", op, one, two, counts, cells)
			}
		}
	}
}

// TestExamples: the chapter's.
func TestExamples(t *testing.T) {
	abc := nums(1, 2, 3)
	for _, c := range []twoCase{
		{api.Take, arr.Atom(-5), abc, nums(0, 0, 1, 2, 3), api.OK}, {api.Drop, arr.Atom(2), abc, nums(3), api.OK}, {api.RotF, arr.Atom(1), abc, nums(2, 3, 1), api.OK}, {api.From, nums(2, 0), abc, nums(3, 1), api.OK}, {api.From, arr.Atom(3), abc, api.Arr{}, api.ErrIndex}, {api.RepF, nums(1, 0, 2), abc, nums(1, 3, 3), api.OK},
	} {
		got, e := pick.Dy(c.op, c.a, c.b)
		expect(t, "Dy", got, e, c.want, c.err)
	}
}
