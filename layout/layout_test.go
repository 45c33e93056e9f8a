package layout_test

import (
	"math"
	"math/rand"
	"slices"
	"testing"

	"triglyph/api"
	"triglyph/arr"
	"triglyph/layout"
)

const (
	least = math.MinInt64
	most  = math.MaxInt64
)

// number, sign and box are cells that may be.
func number(n int64) api.Cell { return api.Cell{Kind: api.CInt, N: n} }
func sign(n int64) api.Cell   { return api.Cell{Kind: api.CChar, N: n} }
func box(a api.Arr) api.Cell  { return api.Cell{Kind: api.CBox, Box: []api.Arr{a}} }

// atom, list, with and of are arrays of cells.
func atom(c api.Cell) api.Arr                 { return api.Arr{Cells: []api.Cell{c}} }
func list(c ...api.Cell) api.Arr              { return api.Arr{Shape: []int{len(c)}, Cells: c} }
func with(shape []int, c ...api.Cell) api.Arr { return api.Arr{Shape: shape, Cells: c} }
func of(shape []int, l ...int64) api.Arr      { return with(shape, arr.Nums(l).Cells...) }
func nums(l ...int64) api.Arr                 { return arr.Nums(l) }
func counted(shape []int, many int64) api.Arr { return of(shape, upTo(many)...) }
func boxes(many int, within api.Arr) api.Arr {
	for range many {
		within = atom(box(within))
	}
	return within
}

// upTo is the numbers from 0 up to one that is left out.
func upTo(many int64) []int64 {
	l := []int64{}
	for n := int64(0); n < many; n++ {
		l = append(l, n)
	}
	return l
}

// alike: the same fields all the way down; nil and nothing are alike.
func alike(a, b api.Arr) bool {
	return slices.Equal(a.Shape, b.Shape) && slices.EqualFunc(a.Cells, b.Cells, alikeCells)
}

func alikeCells(a, b api.Cell) bool {
	return a.Kind == b.Kind && a.N == b.N && slices.EqualFunc(a.Box, b.Box, alike)
}

// ones are the functions of one argument of this layer.
func ones() []int {
	return []int{api.Iota, api.Shape, api.Tally, api.Ravel, api.RevF, api.RevL, api.Flip, api.Encl, api.Disc, api.First, api.List}
}

// anyOps are numbers of functions, and numbers that name none.
func anyOps() []int {
	l := []int{math.MinInt, math.MinInt + api.Shape, math.MinInt32, -1 << 16, 1 << 16, 1<<32 + api.Shape, math.MaxInt32, math.MaxInt - api.Flip, math.MaxInt}
	for op := -70; op <= 130; op++ {
		l = append(l, op)
	}
	return l
}

// expect holds an answer against the one asked for: with an error nothing else. What is answered may be.
func expect(t *testing.T, what string, got api.Arr, e api.Errno, want api.Arr, wantErr api.Errno) {
	t.Helper()
	if wantErr != api.OK {
		want = api.Arr{}
	}
	if e != wantErr || !alike(got, want) {
		t.Errorf("%s: %v, %v; want %v, %v", what, got, e, want, wantErr)
	}
	if check := arr.Check(got); e == api.OK && check != api.OK {
		t.Errorf("%s: %v may not be: %v", what, got, check)
	}
}

// oneCase is an argument of a function of one, and what comes of it.
type oneCase struct {
	op      int
	a, want api.Arr
	err     api.Errno
}

// solid is of three axes: two tables of three rows of four.
func solid() api.Arr { return counted([]int{2, 3, 4}, 24) }

// eight are MaxRank axes, and one of them is 2.
func eight(two int) []int {
	shape := []int{1, 1, 1, 1, 1, 1, 1, 1}
	shape[two] = 2
	return shape
}

// mixed is of all kinds, in two rows.
func mixed() api.Arr {
	return with([]int{2, 2}, number(7), sign(0x2373), box(nums(1, 2)), box(list(sign(97), box(nums()))))
}

// askedCases: 5.1.
func askedCases() []oneCase {
	return []oneCase{
		{api.Shape, arr.Atom(7), nums(), api.OK}, {api.Shape, atom(box(solid())), nums(), api.OK}, {api.Shape, nums(7, 8), nums(2), api.OK}, {api.Shape, nums(7), nums(1), api.OK}, {api.Shape, solid(), nums(2, 3, 4), api.OK}, {api.Shape, mixed(), nums(2, 2), api.OK},
		{api.Shape, nums(), nums(0), api.OK}, {api.Shape, of([]int{0, 3}), nums(0, 3), api.OK}, {api.Shape, of([]int{3, 0}), nums(3, 0), api.OK}, {api.Shape, of([]int{5, 0, 16384}), nums(5, 0, 16384), api.OK}, {api.Shape, of(eight(6), 1, 2), nums(1, 1, 1, 1, 1, 1, 2, 1), api.OK},
		{api.Tally, arr.Atom(7), arr.Atom(1), api.OK}, {api.Tally, atom(box(nums())), arr.Atom(1), api.OK}, {api.Tally, nums(7, 8), arr.Atom(2), api.OK}, {api.Tally, solid(), arr.Atom(2), api.OK}, {api.Tally, of([]int{3, 1}, 1, 2, 3), arr.Atom(3), api.OK}, {api.Tally, counted([]int{16384}, 16384), arr.Atom(16384), api.OK},
		{api.Tally, nums(), arr.Atom(0), api.OK}, {api.Tally, of([]int{0, 3}), arr.Atom(0), api.OK}, {api.Tally, of([]int{3, 0}), arr.Atom(3), api.OK}, {api.Tally, of([]int{5, 0, 16384}), arr.Atom(5), api.OK}, {api.Tally, of(eight(0), 1, 2), arr.Atom(2), api.OK}, {api.Tally, of(eight(7), 1, 2), arr.Atom(1), api.OK},
		{api.Ravel, arr.Atom(7), nums(7), api.OK}, {api.Ravel, atom(box(solid())), list(box(solid())), api.OK}, {api.Ravel, nums(7, 8), nums(7, 8), api.OK}, {api.Ravel, solid(), counted([]int{24}, 24), api.OK}, {api.Ravel, mixed(), list(mixed().Cells...), api.OK},
		{api.Ravel, nums(), nums(), api.OK}, {api.Ravel, of([]int{0, 3}), nums(), api.OK}, {api.Ravel, of([]int{3, 0}), nums(), api.OK}, {api.Ravel, of([]int{5, 0, 16384}), nums(), api.OK}, {api.Ravel, of(eight(3), 1, 2), nums(1, 2), api.OK}, {api.Ravel, counted([]int{128, 128}, 16384), counted([]int{16384}, 16384), api.OK},
	}
}

// iotaCases: 5.2.
func iotaCases() []oneCase {
	no := api.Arr{}
	return []oneCase{
		{api.Iota, arr.Atom(0), nums(), api.OK}, {api.Iota, arr.Atom(1), nums(0), api.OK}, {api.Iota, arr.Atom(5), nums(0, 1, 2, 3, 4), api.OK},
		{api.Iota, arr.Atom(16383), counted([]int{16383}, 16383), api.OK}, {api.Iota, arr.Atom(16384), counted([]int{16384}, 16384), api.OK},
		{api.Iota, arr.Atom(16385), no, api.ErrCells}, {api.Iota, arr.Atom(1 << 32), no, api.ErrCells}, {api.Iota, arr.Atom(1<<32 + 5), no, api.ErrCells}, {api.Iota, arr.Atom(most), no, api.ErrCells},
		{api.Iota, arr.Atom(-1), no, api.ErrDomain}, {api.Iota, arr.Atom(least), no, api.ErrDomain}, {api.Iota, arr.Atom(-16385), no, api.ErrDomain},
		{api.Iota, atom(sign(5)), no, api.ErrDomain}, {api.Iota, atom(sign(0)), no, api.ErrDomain}, {api.Iota, atom(sign(0x10ffff)), no, api.ErrDomain}, {api.Iota, atom(box(arr.Atom(5))), no, api.ErrDomain}, {api.Iota, boxes(8, arr.Atom(5)), no, api.ErrDomain},
		// A list of one cell is no atom; that is ahead of what the cells are.
		{api.Iota, nums(5), no, api.ErrRank}, {api.Iota, nums(), no, api.ErrRank}, {api.Iota, nums(2, 3), no, api.ErrRank}, {api.Iota, of([]int{1, 1}, 5), no, api.ErrRank}, {api.Iota, nums(-1), no, api.ErrRank}, {api.Iota, nums(16385), no, api.ErrRank}, {api.Iota, list(sign(97)), no, api.ErrRank}, {api.Iota, list(box(nums(1))), no, api.ErrRank}, {api.Iota, of([]int{0, 3}), no, api.ErrRank}, {api.Iota, of(eight(3), 1, 2), no, api.ErrRank},
	}
}

// turnCases: 5.3.
func turnCases() []oneCase {
	table := of([]int{2, 3}, 1, 2, 3, 4, 5, 6)
	m := mixed().Cells
	l := []oneCase{
		{api.RevF, nums(1, 2, 3), nums(3, 2, 1), api.OK}, {api.RevL, nums(1, 2, 3), nums(3, 2, 1), api.OK}, {api.Flip, nums(1, 2, 3), nums(1, 2, 3), api.OK}, {api.RevF, nums(1, 2), nums(2, 1), api.OK}, {api.RevL, nums(1, 2, 3, 4), nums(4, 3, 2, 1), api.OK},
		{api.RevF, table, of([]int{2, 3}, 4, 5, 6, 1, 2, 3), api.OK}, {api.RevL, table, of([]int{2, 3}, 3, 2, 1, 6, 5, 4), api.OK}, {api.Flip, table, of([]int{3, 2}, 1, 4, 2, 5, 3, 6), api.OK},
		{api.RevF, solid(), of([]int{2, 3, 4}, 12, 13, 14, 15, 16, 17, 18, 19, 20, 21, 22, 23, 0, 1, 2, 3, 4, 5, 6, 7, 8, 9, 10, 11), api.OK},
		{api.RevL, solid(), of([]int{2, 3, 4}, 3, 2, 1, 0, 7, 6, 5, 4, 11, 10, 9, 8, 15, 14, 13, 12, 19, 18, 17, 16, 23, 22, 21, 20), api.OK},
		{api.Flip, solid(), of([]int{4, 3, 2}, 0, 12, 4, 16, 8, 20, 1, 13, 5, 17, 9, 21, 2, 14, 6, 18, 10, 22, 3, 15, 7, 19, 11, 23), api.OK},
		{api.RevF, mixed(), with([]int{2, 2}, m[2], m[3], m[0], m[1]), api.OK}, {api.RevL, mixed(), with([]int{2, 2}, m[1], m[0], m[3], m[2]), api.OK}, {api.Flip, mixed(), with([]int{2, 2}, m[0], m[2], m[1], m[3]), api.OK},
		{api.RevF, of(eight(0), 1, 2), of(eight(0), 2, 1), api.OK}, {api.RevL, of(eight(0), 1, 2), of(eight(0), 1, 2), api.OK}, {api.RevF, of(eight(7), 1, 2), of(eight(7), 1, 2), api.OK}, {api.RevL, of(eight(7), 1, 2), of(eight(7), 2, 1), api.OK}, {api.Flip, of(eight(1), 1, 2), of(eight(6), 1, 2), api.OK},
		{api.Flip, of([]int{0, 3}), of([]int{3, 0}), api.OK}, {api.Flip, of([]int{2, 0, 3, 4}), of([]int{4, 3, 0, 2}), api.OK}, {api.Flip, of([]int{0, 16384, 16384, 16384, 16384, 16384, 16384, 5}), of([]int{5, 16384, 16384, 16384, 16384, 16384, 16384, 0}), api.OK},
	}
	for _, op := range []int{api.RevF, api.RevL, api.Flip} {
		for _, a := range []api.Arr{arr.Atom(7), atom(sign(97)), atom(box(nums(1, 2))), boxes(8, nums(1, 2)), nums(), nums(7), of([]int{0, 0}), of([]int{3, 0, 3}), of([]int{1, 1}, 5)} {
			l = append(l, oneCase{op, a, a, api.OK})
		}
	}
	for _, op := range []int{api.RevF, api.RevL} {
		for _, a := range []api.Arr{of([]int{0, 3}), of([]int{3, 0}), of([]int{2, 0, 3}), of([]int{0, 16384, 16384, 16384, 16384, 16384, 16384, 5}), of([]int{5, 16384, 16384, 16384, 16384, 16384, 16384, 0})} {
			l = append(l, oneCase{op, a, a, api.OK})
		}
	}
	return l
}

// boxCases: 5.4.
func boxCases() []oneCase {
	no := api.Arr{}
	deep := list(number(1), box(boxes(7, nums(1, 2))), sign(97))
	less := list(number(1), box(boxes(6, nums(1, 2))), sign(97))
	l := []oneCase{
		{api.Encl, boxes(7, arr.Atom(1)), boxes(8, arr.Atom(1)), api.OK}, {api.Encl, boxes(8, arr.Atom(1)), no, api.ErrDeep}, {api.Encl, boxes(8, nums()), no, api.ErrDeep},
		{api.Encl, less, atom(box(less)), api.OK}, {api.Encl, deep, no, api.ErrDeep}, {api.Encl, list(box(nums(1)), box(deep.Cells[1].Box[0])), no, api.ErrDeep},
		{api.Disc, atom(box(arr.Atom(5))), arr.Atom(5), api.OK}, {api.Disc, atom(box(nums(5))), nums(5), api.OK}, {api.Disc, atom(box(nums())), nums(), api.OK}, {api.Disc, atom(box(mixed())), mixed(), api.OK}, {api.Disc, boxes(8, solid()), boxes(7, solid()), api.OK}, {api.Disc, boxes(2, arr.Atom(1)), boxes(1, arr.Atom(1)), api.OK},
		{api.Disc, arr.Atom(5), arr.Atom(5), api.OK}, {api.Disc, arr.Atom(least), arr.Atom(least), api.OK}, {api.Disc, atom(sign(97)), atom(sign(97)), api.OK},
		{api.Disc, nums(), no, api.ErrRank}, {api.Disc, nums(5), no, api.ErrRank}, {api.Disc, list(box(nums(1))), no, api.ErrRank}, {api.Disc, list(sign(97), sign(98)), no, api.ErrRank}, {api.Disc, solid(), no, api.ErrRank}, {api.Disc, with([]int{1, 1}, box(nums(1))), no, api.ErrRank}, {api.Disc, of([]int{0, 3}), no, api.ErrRank}, {api.Disc, of(eight(2), 1, 2), no, api.ErrRank},
	}
	for _, a := range []api.Arr{arr.Atom(5), atom(sign(97)), atom(box(arr.Atom(5))), nums(), nums(5), nums(5, 6), solid(), mixed(), of([]int{0, 3}), of([]int{3, 0}), of(eight(2), 1, 2)} {
		l = append(l, oneCase{api.Encl, a, atom(box(a)), api.OK})
	}
	return l
}

// itemCases: 5.5.
func itemCases() []oneCase {
	no := api.Arr{}
	return []oneCase{
		{api.First, arr.Atom(5), arr.Atom(5), api.OK}, {api.First, atom(sign(97)), atom(sign(97)), api.OK}, {api.First, atom(box(nums(1, 2))), atom(box(nums(1, 2))), api.OK},
		{api.First, nums(5), arr.Atom(5), api.OK}, {api.First, nums(5, 6, 7), arr.Atom(5), api.OK}, {api.First, list(box(nums(1, 2)), number(3)), atom(box(nums(1, 2))), api.OK}, {api.First, mixed(), list(mixed().Cells[:2]...), api.OK}, {api.First, of([]int{2, 3}, 1, 2, 3, 4, 5, 6), nums(1, 2, 3), api.OK}, {api.First, of([]int{1, 2}, 1, 2), nums(1, 2), api.OK}, {api.First, of([]int{2, 1}, 1, 2), nums(1), api.OK}, {api.First, solid(), counted([]int{3, 4}, 12), api.OK},
		{api.First, of(eight(0), 1, 2), of([]int{1, 1, 1, 1, 1, 1, 1}, 1), api.OK}, {api.First, of(eight(7), 1, 2), of([]int{1, 1, 1, 1, 1, 1, 2}, 1, 2), api.OK},
		{api.First, nums(), no, api.ErrIndex}, {api.First, of([]int{0, 3}), no, api.ErrIndex}, {api.First, of([]int{0, 0}), no, api.ErrIndex}, {api.First, of([]int{0, 16384, 16384}), no, api.ErrIndex},
		{api.First, of([]int{3, 0}), nums(), api.OK}, {api.First, of([]int{1, 0}), nums(), api.OK}, {api.First, of([]int{3, 0, 2}), of([]int{0, 2}), api.OK}, {api.First, of([]int{3, 2, 0}), of([]int{2, 0}), api.OK}, {api.First, of([]int{16384, 0, 16384}), of([]int{0, 16384}), api.OK},
		{api.List, arr.Atom(5), nums(5), api.OK}, {api.List, atom(box(nums(1, 2))), list(box(nums(1, 2))), api.OK}, {api.List, boxes(8, nums()), list(box(boxes(7, nums()))), api.OK}, {api.List, nums(5, 6), of([]int{1, 2}, 5, 6), api.OK}, {api.List, nums(), of([]int{1, 0}), api.OK}, {api.List, solid(), counted([]int{1, 2, 3, 4}, 24), api.OK}, {api.List, mixed(), with([]int{1, 2, 2}, mixed().Cells...), api.OK}, {api.List, of([]int{0, 3}), of([]int{1, 0, 3}), api.OK},
		{api.List, of([]int{1, 1, 1, 2, 1, 1, 1}, 1, 2), of([]int{1, 1, 1, 1, 2, 1, 1, 1}, 1, 2), api.OK}, {api.List, of(eight(0), 1, 2), no, api.ErrRank}, {api.List, of([]int{1, 1, 1, 1, 1, 1, 1, 0}), no, api.ErrRank}, {api.List, of([]int{1, 0, 1, 1, 1, 1, 1}), of([]int{1, 1, 0, 1, 1, 1, 1, 1}), api.OK},
	}
}

// oneCases are all of them.
func oneCases() []oneCase {
	return slices.Concat(askedCases(), iotaCases(), turnCases(), boxCases(), itemCases())
}

// TestAsked: 5.1.
func TestAsked(t *testing.T) { expectOnes(t, askedCases()) }

// TestIota: 5.2.
func TestIota(t *testing.T) { expectOnes(t, iotaCases()) }

// TestTurned: 5.3.
func TestTurned(t *testing.T) { expectOnes(t, turnCases()) }

// TestBoxes: 5.4.
func TestBoxes(t *testing.T) { expectOnes(t, boxCases()) }

// TestItems: 5.5.
func TestItems(t *testing.T) { expectOnes(t, itemCases()) }

func expectOnes(t *testing.T, cases []oneCase) {
	t.Helper()
	for _, c := range cases {
		got, e := layout.Mo(c.op, c.a)
		expect(t, "Mo", got, e, c.want, c.err)
	}
}

// wrongArray may not be.
type wrongArray struct {
	a   api.Arr
	err api.Errno
}

func wrongArrays() []wrongArray {
	return []wrongArray{
		{api.Arr{}, api.ErrArg},
		{of(nil, 1, 2), api.ErrArg},
		{of([]int{2}, 1), api.ErrArg},
		{of([]int{0, 3}, 1), api.ErrArg},
		{of([]int{-1}), api.ErrArg},
		{of([]int{1, 1, 1, 1, 1, 1, 1, 1, 1}, 1), api.ErrRank},
		{of([]int{1, 1, 1, 1, 1, 1, 1, 1, 0}), api.ErrRank},
		{of([]int{16385}), api.ErrCells},
		{of([]int{16385, 0}), api.ErrCells},
		{boxes(9, arr.Atom(1)), api.ErrDeep},
		{atom(api.Cell{Kind: 3}), api.ErrArg},
		{list(number(1), api.Cell{Kind: -1}), api.ErrArg},
		{list(sign(97), sign(0xd800)), api.ErrArg},
		{list(number(1), api.Cell{Kind: api.CBox}), api.ErrArg},
		{atom(api.Cell{Kind: api.CBox, Box: []api.Arr{arr.Atom(1), arr.Atom(2)}}), api.ErrArg},
		{list(api.Cell{Kind: api.CInt, Box: []api.Arr{arr.Atom(1)}}), api.ErrArg},
		{atom(box(of([]int{16385}))), api.ErrCells},
	}
}

// TestOrder: the array's error is ahead of all, then that of a number that names none.
func TestOrder(t *testing.T) {
	for _, op := range anyOps() {
		for _, w := range wrongArrays() {
			got, e := layout.Mo(op, w.a)
			expect(t, "Mo of what may not be", got, e, api.Arr{}, w.err)
		}
		if slices.Contains(ones(), op) {
			continue
		}
		for _, a := range []api.Arr{arr.Atom(0), arr.Atom(-1), nums(), nums(1, 2), atom(sign(97)), boxes(8, nums()), of([]int{0, 3}), of(eight(0), 1, 2)} {
			got, e := layout.Mo(op, a)
			expect(t, "Mo by a number that names none", got, e, api.Arr{}, api.ErrArg)
		}
	}
}

// shapes are those of many ranks, empty ones and full ones among them.
func shapes() [][]int {
	return [][]int{
		nil, {0}, {1}, {2}, {7}, {16384}, {1, 1}, {2, 3}, {3, 2}, {5, 1}, {1, 5}, {0, 3}, {3, 0}, {0, 0}, {2, 3, 4}, {4, 3, 2}, {3, 1, 2}, {2, 0, 3}, {0, 2, 3}, {2, 3, 0}, {128, 128}, {2, 2, 2, 2, 2, 2, 2, 2}, {1, 1, 1, 1, 1, 1, 1, 1}, {3, 1, 2, 1, 4, 1, 2, 3}, {16384, 0, 16384}, {2, 3, 2, 3, 2, 3, 2}, {3, 2, 1, 2, 0, 2, 1, 2},
	}
}

// filled is an array of a shape with cells of all kinds by chance.
func filled(r *rand.Rand, shape []int) api.Arr {
	size, _ := arr.Size(shape)
	a := api.Arr{Shape: shape, Cells: make([]api.Cell, size)}
	for i := range a.Cells {
		switch n := r.Int63n(50000); r.Intn(5) {
		case 0:
			a.Cells[i] = sign(n)
		case 1:
			a.Cells[i] = box(list(number(n), box(arr.Atom(n)), sign(97)))
		default:
			a.Cells[i] = number(r.Int63() - r.Int63())
		}
	}
	return a
}

// wantTurn is 5.3, said again by places: the cell at each is the one at what of makes of it.
func wantTurn(a api.Arr, shape []int, of func(at []int)) api.Arr {
	out := api.Arr{Shape: shape, Cells: make([]api.Cell, len(a.Cells))}
	for i := range out.Cells {
		at, _ := arr.Places(shape, i)
		of(at)
		from, _ := arr.Place(a.Shape, at)
		out.Cells[i] = a.Cells[from]
	}
	return out
}

// TestTurnedByPlaces: 5.3 of arrays of many shapes, place by place.
func TestTurnedByPlaces(t *testing.T) {
	r := rand.New(rand.NewSource(53))
	for _, shape := range shapes() {
		a := filled(r, shape)
		back := slices.Clone(shape)
		slices.Reverse(back)
		last := len(shape) - 1
		got, e := layout.Mo(api.Flip, a)
		expect(t, "Flip", got, e, wantTurn(a, back, func(at []int) { slices.Reverse(at) }), api.OK)
		for op, axis := range map[int]int{api.RevF: 0, api.RevL: last} {
			got, e := layout.Mo(op, a)
			expect(t, "Mo", got, e, wantTurn(a, shape, func(at []int) {
				if last >= 0 {
					at[axis] = shape[axis] - 1 - at[axis]
				}
			}), api.OK)
		}
	}
}

// reshapeCase is two arguments of Reshape, and what comes of them.
type reshapeCase struct {
	s, a, want api.Arr
	err        api.Errno
}

func reshapeCases() []reshapeCase {
	abc := nums(7, 8, 9)
	m := mixed().Cells
	return []reshapeCase{
		{nums(2, 3), nums(0, 1, 2, 3, 4, 5), counted([]int{2, 3}, 6), api.OK}, {nums(3, 2), counted([]int{2, 3}, 6), counted([]int{3, 2}, 6), api.OK}, {nums(2, 3, 4), counted([]int{24}, 24), solid(), api.OK},
		// An atom says one axis, an empty list none.
		{arr.Atom(2), abc, nums(7, 8), api.OK}, {arr.Atom(5), abc, nums(7, 8, 9, 7, 8), api.OK}, {arr.Atom(0), abc, nums(), api.OK}, {arr.Atom(1), abc, nums(7), api.OK}, {nums(), abc, arr.Atom(7), api.OK}, {nums(), mixed(), arr.Atom(7), api.OK}, {nums(), atom(box(abc)), atom(box(abc)), api.OK}, {api.Arr{Shape: []int{0}}, arr.Atom(5), arr.Atom(5), api.OK},
		{nums(4), arr.Atom(6), nums(6, 6, 6, 6), api.OK}, {nums(2, 2), abc, of([]int{2, 2}, 7, 8, 9, 7), api.OK}, {nums(7), abc, nums(7, 8, 9, 7, 8, 9, 7), api.OK}, {nums(1, 1), abc, of([]int{1, 1}, 7), api.OK}, {nums(3), solid(), nums(0, 1, 2), api.OK}, {nums(5), mixed(), list(m[0], m[1], m[2], m[3], m[0]), api.OK}, {nums(2), atom(box(abc)), list(box(abc), box(abc)), api.OK}, {nums(2), boxes(8, abc), list(boxes(8, abc).Cells[0], boxes(8, abc).Cells[0]), api.OK},
		{nums(1, 1, 1, 1, 1, 1, 2, 1), abc, of(eight(6), 7, 8), api.OK}, {arr.Atom(16384), abc, of([]int{16384}, slices.Repeat([]int64{7, 8, 9}, 5462)[:16384]...), api.OK}, {nums(128, 128), arr.Atom(3), of([]int{128, 128}, slices.Repeat([]int64{3}, 16384)...), api.OK},
		// To none.
		{nums(0), abc, nums(), api.OK}, {nums(0, 3), abc, of([]int{0, 3}), api.OK}, {nums(3, 0), mixed(), of([]int{3, 0}), api.OK}, {nums(2, 0, 3), arr.Atom(1), of([]int{2, 0, 3}), api.OK}, {nums(16384, 0, 16384), abc, of([]int{16384, 0, 16384}), api.OK}, {nums(16384, 16384, 16384, 16384, 16384, 16384, 16384, 0), abc, of([]int{16384, 16384, 16384, 16384, 16384, 16384, 16384, 0}), api.OK},
		// Of an array without cells.
		{nums(0), nums(), nums(), api.OK}, {nums(0, 3), nums(), of([]int{0, 3}), api.OK}, {arr.Atom(0), of([]int{3, 0}), nums(), api.OK}, {nums(1), nums(), api.Arr{}, api.ErrLength}, {nums(), nums(), api.Arr{}, api.ErrLength}, {nums(2, 3), of([]int{0, 3}), api.Arr{}, api.ErrLength}, {arr.Atom(16384), of([]int{2, 0, 3}), api.Arr{}, api.ErrLength},
	}
}

// refusedShapes: what s may not be, with those that several errors fit.
func refusedShapes() []wrongArray {
	nine := []int64{1, 1, 1, 1, 1, 1, 1, 1, 1}
	return []wrongArray{
		{of([]int{1, 2}, 2, 3), api.ErrRank}, {of([]int{1, 1}, 2), api.ErrRank}, {of([]int{0, 2}), api.ErrRank}, {of([]int{2, 0}), api.ErrRank}, {of(eight(0), 1, 1), api.ErrRank}, {solid(), api.ErrRank},
		{atom(sign(2)), api.ErrDomain}, {list(sign(2)), api.ErrDomain}, {list(number(2), sign(97)), api.ErrDomain}, {atom(box(arr.Atom(2))), api.ErrDomain}, {list(number(2), box(nums(3))), api.ErrDomain},
		{arr.Atom(-1), api.ErrDomain}, {nums(-1), api.ErrDomain}, {nums(2, -1), api.ErrDomain}, {nums(0, -1), api.ErrDomain}, {nums(-2, -3), api.ErrDomain}, {arr.Atom(least), api.ErrDomain},
		{nums(nine...), api.ErrRank}, {nums(1, 1, 1, 1, 0, 1, 1, 1, 1), api.ErrRank}, {counted([]int{16384}, 16384), api.ErrRank},
		{arr.Atom(16385), api.ErrCells}, {nums(16385), api.ErrCells}, {nums(16385, 0), api.ErrCells}, {nums(0, 16385), api.ErrCells}, {nums(0, 3, most), api.ErrCells}, {nums(most), api.ErrCells}, {nums(1<<32+2, 3), api.ErrCells}, {nums(0, 1<<32), api.ErrCells},
		{nums(2, 8193), api.ErrCells}, {nums(129, 128), api.ErrCells}, {nums(16384, 2), api.ErrCells}, {nums(16384, 16384, 16384, 16384, 16384, 16384, 16384, 16384), api.ErrCells}, {nums(4, 4, 4, 4, 4, 4, 4, 2), api.ErrCells},
		// Two axes are ahead of what the cells are; that is ahead of how many there are; that of how much they ask for.
		{with([]int{1, 2}, sign(97), number(-1)), api.ErrRank}, {of([]int{1, 1}, -1), api.ErrRank}, {of([]int{1, 2}, 16385, 0), api.ErrRank},
		{list(append(nums(nine...).Cells, sign(97))...), api.ErrDomain}, {nums(append(nine, -1)...), api.ErrDomain}, {nums(append(nine[:8:8], most)...), api.ErrRank}, {nums(append([]int64{16385}, nine[:8]...)...), api.ErrRank}, {nums(16385, -1), api.ErrDomain}, {nums(-1, 16385), api.ErrDomain}, {list(number(16384), number(16384), sign(97)), api.ErrDomain}, {list(number(16385), sign(97)), api.ErrDomain},
	}
}

// TestReshape: 5.6, written out.
func TestReshape(t *testing.T) {
	for _, c := range reshapeCases() {
		got, e := layout.Reshape(c.s, c.a)
		expect(t, "Reshape", got, e, c.want, c.err)
	}
}

// TestReshapeRefused: 5.6: what s says may not be, of arrays with cells and without: its errors are ahead of ErrLength.
func TestReshapeRefused(t *testing.T) {
	for _, w := range refusedShapes() {
		for _, a := range []api.Arr{arr.Atom(1), nums(1, 2), nums(), of([]int{3, 0}), mixed()} {
			got, e := layout.Reshape(w.a, a)
			expect(t, "Reshape by what is refused", got, e, api.Arr{}, w.err)
		}
	}
}

// TestReshapeWrong: 5.6: s's error, then a's, ahead of all others.
func TestReshapeWrong(t *testing.T) {
	for _, w := range wrongArrays() {
		for _, a := range []api.Arr{arr.Atom(1), nums(), mixed()} {
			got, e := layout.Reshape(w.a, a)
			expect(t, "Reshape by what may not be", got, e, api.Arr{}, w.err)
		}
		for _, s := range []api.Arr{nums(), nums(2, 3), nums(0), arr.Atom(0)} {
			got, e := layout.Reshape(s, w.a)
			expect(t, "Reshape of what may not be", got, e, api.Arr{}, w.err)
		}
		for _, s := range refusedShapes() {
			got, e := layout.Reshape(s.a, w.a)
			expect(t, "Reshape of what may not be by what is refused", got, e, api.Arr{}, w.err)
		}
		for _, a := range wrongArrays() {
			got, e := layout.Reshape(w.a, a.a)
			expect(t, "Reshape of both wrong", got, e, api.Arr{}, w.err)
		}
	}
}

// TestReshapeAll: 5.6 of arrays of many shapes, to each of them.
func TestReshapeAll(t *testing.T) {
	r := rand.New(rand.NewSource(56))
	for _, shape := range shapes() {
		a := filled(r, shape)
		for _, to := range shapes() {
			size, _ := arr.Size(to)
			want, wantErr := api.Arr{Shape: to}, api.OK
			if size > 0 && len(a.Cells) == 0 {
				wantErr = api.ErrLength
			}
			for len(want.Cells) < size && wantErr == api.OK {
				want.Cells = append(want.Cells, a.Cells[:min(len(a.Cells), size-len(want.Cells))]...)
			}
			got, e := layout.Reshape(asNumbers(to), a)
			expect(t, "Reshape", got, e, want, wantErr)
		}
	}
}

// asNumbers is a shape as a list.
func asNumbers(shape []int) api.Arr {
	l := []int64{}
	for _, long := range shape {
		l = append(l, int64(long))
	}
	return nums(l...)
}

// mo is an answer where no error is asked for.
func mo(t *testing.T, op int, a api.Arr) api.Arr {
	t.Helper()
	out, e := layout.Mo(op, a)
	if e != api.OK {
		t.Fatalf("Mo(%d, %v): %v", op, a, e)
	}
	return out
}

// TestFollows: 5.7: twice turned, in a box and out of it, its cells in its shape, and what comes of all is right.
func TestFollows(t *testing.T) {
	r := rand.New(rand.NewSource(57))
	for _, shape := range shapes() {
		a := filled(r, shape)
		for _, op := range []int{api.RevF, api.RevL, api.Flip} {
			expect(t, "turned twice", mo(t, op, mo(t, op, a)), api.OK, a, api.OK)
		}
		expect(t, "in a box and out of it", mo(t, api.Disc, mo(t, api.Encl, a)), api.OK, a, api.OK)
		got, e := layout.Reshape(mo(t, api.Shape, a), mo(t, api.Ravel, a))
		expect(t, "its cells in its shape", got, e, a, api.OK)
		if len(shape) < api.MaxRank {
			expect(t, "the item of its list", mo(t, api.First, mo(t, api.List, a)), api.OK, a, api.OK)
		}
		for _, op := range ones() {
			if out, e := layout.Mo(op, a); e == api.OK && arr.Check(out) != api.OK {
				t.Errorf("Mo(%d, ..) of shape %v may not be", op, shape)
			}
		}
	}
}

// spoil changes all that an array holds, and what lies behind its lists.
func spoil(a api.Arr) {
	shape := a.Shape[:cap(a.Shape)]
	for i := range shape {
		shape[i] = 77
	}
	cells := a.Cells[:cap(a.Cells)]
	for i := range cells {
		within := cells[i].Box[:cap(cells[i].Box)]
		for k := range within {
			spoil(within[k])
			within[k] = arr.Atom(77)
		}
		cells[i] = api.Cell{Kind: 77, N: 77}
	}
}

// TestStays: R3 and P7: what came in stays as it was, an answer shares nothing with it, nor with another answer, and is alike each time.
func TestStays(t *testing.T) {
	for _, c := range oneCases() {
		a := arr.Copy(c.a)
		want := arr.Copy(c.want)
		got, e := layout.Mo(c.op, a)
		second, err := layout.Mo(c.op, a)
		if !alike(a, c.a) || !alike(got, second) || e != err {
			t.Errorf("Mo(%d, %v) changed it", c.op, c.a)
		}
		spoil(got)
		if !alike(a, c.a) || !alike(second, want) {
			t.Errorf("Mo(%d, %v): what it answers is shared", c.op, c.a)
		}
		spoil(a)
		if !alike(second, want) {
			t.Errorf("Mo(%d, %v): it answers what came in", c.op, c.a)
		}
	}
}

// TestReshapeStays: R3 and P7 of Reshape.
func TestReshapeStays(t *testing.T) {
	for _, c := range reshapeCases() {
		s, a, want := arr.Copy(c.s), arr.Copy(c.a), arr.Copy(c.want)
		got, e := layout.Reshape(s, a)
		second, err := layout.Reshape(s, a)
		if !alike(s, c.s) || !alike(a, c.a) || !alike(got, second) || e != err {
			t.Errorf("Reshape(%v, %v) changed them", c.s, c.a)
		}
		spoil(got)
		if !alike(s, c.s) || !alike(a, c.a) || !alike(second, want) {
			t.Errorf("Reshape(%v, %v): what it answers is shared", c.s, c.a)
		}
		spoil(s)
		spoil(a)
		if !alike(second, want) {
			t.Errorf("Reshape(%v, %v): it answers what came in", c.s, c.a)
		}
	}
}

// TestOwnBoxes: R3: a box that Reshape lays in several places has memory of its own in each.
func TestOwnBoxes(t *testing.T) {
	got, e := layout.Reshape(nums(3), list(box(nums(1, 2)), box(boxes(2, nums(3)))))
	expect(t, "Reshape", got, e, list(box(nums(1, 2)), box(boxes(2, nums(3))), box(nums(1, 2))), api.OK)
	spoil(got.Cells[0].Box[0])
	expect(t, "the third", atom(got.Cells[2]), api.OK, atom(box(nums(1, 2))), api.OK)
	got, e = layout.Reshape(nums(2, 2), boxes(3, nums(1, 2)))
	expect(t, "Reshape", got, e, with([]int{2, 2}, slices.Repeat(boxes(3, nums(1, 2)).Cells, 4)...), api.OK)
	spoil(got.Cells[1].Box[0])
	for _, i := range []int{0, 2, 3} {
		expect(t, "another", atom(got.Cells[i]), api.OK, boxes(3, nums(1, 2)), api.OK)
	}
}

// TestOneTwice: R3: one array as both arguments stays, too.
func TestOneTwice(t *testing.T) {
	a := nums(2, 3)
	got, e := layout.Reshape(a, a)
	expect(t, "Reshape of one array twice", got, e, of([]int{2, 3}, 2, 3, 2, 3, 2, 3), api.OK)
	expect(t, "that array", a, api.OK, nums(2, 3), api.OK)
}

// TestBehind: R3: what lies behind the lists' lengths is neither read nor handed out.
func TestBehind(t *testing.T) {
	for _, op := range ones() {
		shape := []int{2, 1, 4}
		cells := []api.Cell{number(1), box(nums(2)), sign(97), number(least)}
		whole := api.Arr{Shape: shape[:2], Cells: cells[:2]}
		got, e := layout.Mo(op, whole)
		want, wantErr := layout.Mo(op, arr.Copy(whole))
		expect(t, "Mo", got, e, want, wantErr)
		spoil(got)
		got, e = layout.Mo(op, api.Arr{Shape: shape[:0], Cells: cells[:1]})
		want, wantErr = layout.Mo(op, arr.Atom(1))
		expect(t, "Mo of an atom", got, e, want, wantErr)
		spoil(got)
		if !slices.Equal(shape, []int{2, 1, 4}) || !slices.EqualFunc(cells, []api.Cell{number(1), box(nums(2)), sign(97), number(least)}, alikeCells) {
			t.Errorf("Mo(%d, ..) changed: %v, %v", op, shape, cells)
		}
	}
}

// TestReshapeBehind: R3 of Reshape's arguments.
func TestReshapeBehind(t *testing.T) {
	axes := []api.Cell{number(3), number(5), sign(97)}
	cells := []api.Cell{number(1), number(2), number(least)}
	long := []int{1, 2, 3}
	got, e := layout.Reshape(api.Arr{Shape: long[:1], Cells: axes[:1]}, api.Arr{Shape: long[1:2], Cells: cells[:2]})
	expect(t, "Reshape", got, e, nums(1, 2, 1), api.OK)
	spoil(got)
	got, e = layout.Reshape(api.Arr{Shape: long[:0], Cells: axes[1:2]}, api.Arr{Shape: long[:0], Cells: cells[:1]})
	expect(t, "Reshape by an atom", got, e, nums(1, 1, 1, 1, 1), api.OK)
	spoil(got)
	if !slices.Equal(long, []int{1, 2, 3}) || !alike(list(axes...), list(number(3), number(5), sign(97))) || !alike(list(cells...), nums(1, 2, least)) {
		t.Errorf("changed: %v, %v, %v", long, axes, cells)
	}
}

// TestExamples: the chapter's.
func TestExamples(t *testing.T) {
	six := mo(t, api.Iota, arr.Atom(6))
	laid, e := layout.Reshape(nums(2, 3), six)
	expect(t, "Iota of 6 in 2 3", laid, e, of([]int{2, 3}, 0, 1, 2, 3, 4, 5), api.OK)
	expect(t, "flipped", mo(t, api.Flip, laid), api.OK, of([]int{3, 2}, 0, 3, 1, 4, 2, 5), api.OK)
	expect(t, "Encl of 5", mo(t, api.Encl, arr.Atom(5)), api.OK, atom(box(arr.Atom(5))), api.OK)
	got, e := layout.Mo(api.Iota, arr.Atom(-1))
	expect(t, "Iota of -1", got, e, api.Arr{}, api.ErrDomain)
}
