package seek_test

import (
	"math"
	"math/rand"
	"slices"
	"testing"

	"triglyph/api"
	"triglyph/arr"
	"triglyph/seek"
)

const (
	least = math.MinInt64
	most  = math.MaxInt64
	full  = api.MaxCells
)

// number, sign and box are cells that may be.
func number(n int64) api.Cell { return api.Cell{Kind: api.CInt, N: n} }
func sign(n int64) api.Cell   { return api.Cell{Kind: api.CChar, N: n} }
func box(a api.Arr) api.Cell  { return api.Cell{Kind: api.CBox, Box: []api.Arr{a}} }

// atom, list, with and of are arrays of cells.
func atom(c api.Cell) api.Arr                 { return api.Arr{Cells: []api.Cell{c}} }
func list(c ...api.Cell) api.Arr              { return api.Arr{Shape: []int{len(c)}, Cells: c} }
func with(shape []int, c ...api.Cell) api.Arr { return api.Arr{Shape: shape, Cells: c} }
func of(shape []int, l ...int64) api.Arr      { return with(shape, arr.Nums(l).Cells...) }
func nums(l ...int64) api.Arr                 { return arr.Nums(l) }
func text(s string) api.Arr {
	out := api.Arr{Shape: []int{len(s)}}
	for _, r := range s {
		out.Cells = append(out.Cells, sign(int64(r)))
	}
	return out
}
func boxes(many int, within api.Arr) api.Arr {
	for range many {
		within = atom(box(within))
	}
	return within
}

// counted is the numbers from 0 on in a shape.
func counted(shape ...int) api.Arr {
	size, _ := arr.Size(shape)
	out := api.Arr{Shape: shape}
	for i := range size {
		out.Cells = append(out.Cells, number(int64(i)))
	}
	return out
}

// alike: the same fields all the way down; nil and nothing are alike.
func alike(a, b api.Arr) bool {
	return slices.Equal(a.Shape, b.Shape) && slices.EqualFunc(a.Cells, b.Cells, alikeCells)
}

func alikeCells(a, b api.Cell) bool {
	return a.Kind == b.Kind && a.N == b.N && slices.EqualFunc(a.Box, b.Box, alike)
}

// twos and ones are the functions of this layer.
func twos() []int { return []int{api.IndexOf, api.Member} }
func ones() []int { return []int{api.Up, api.Down, api.Uniq} }

// anyOps are numbers of functions, and numbers that name none.
func anyOps() []int {
	l := []int{math.MinInt, math.MinInt + api.IndexOf, math.MinInt + api.Up, math.MinInt32, -1 << 16, 1 << 16, 1<<32 + api.IndexOf, 1<<32 + api.Up, math.MaxInt32, math.MaxInt - api.Member, math.MaxInt}
	for op := -70; op <= 130; op++ {
		l = append(l, op)
	}
	return l
}

// expect holds an answer against the one asked for: with an error nothing else. What is answered may be.
func expect(t *testing.T, what string, got api.Arr, e api.Errno, want api.Arr, wantErr api.Errno) {
	t.Helper()
	if wantErr != api.OK {
		want = api.Arr{}
	}
	if e != wantErr || !alike(got, want) {
		t.Errorf("%s: %v, %v; want %v, %v", what, short(got), e, short(want), wantErr)
	}
	if check := arr.Check(got); e == api.OK && check != api.OK {
		t.Errorf("%s: %v may not be: %v", what, short(got), check)
	}
}

// short is what of an array is worth telling.
func short(a api.Arr) api.Arr {
	a.Cells = a.Cells[:min(len(a.Cells), 30)]
	return a
}

// twoCase is two arguments of a function, and what comes of them.
type twoCase struct {
	op         int
	a, b, want api.Arr
	err        api.Errno
}

// oneCase is likewise of one argument.
type oneCase struct {
	op      int
	a, want api.Arr
	err     api.Errno
}

// expectTwos and expectOnes: each of them is answered as it says.
func expectTwos(t *testing.T, cases []twoCase) {
	t.Helper()
	for i, c := range cases {
		got, e := seek.Dy(c.op, c.a, c.b)
		if c.err != e || !alike(got, c.want) {
			t.Errorf("%d: Dy(%d, %v, %v)", i, c.op, short(c.a), short(c.b))
		}
		expect(t, "Dy", got, e, c.want, c.err)
	}
}

func expectOnes(t *testing.T, cases []oneCase) {
	t.Helper()
	for i, c := range cases {
		got, e := seek.Mo(c.op, c.a)
		if c.err != e || !alike(got, c.want) {
			t.Errorf("%d: Mo(%d, %v)", i, c.op, short(c.a))
		}
		expect(t, "Mo", got, e, c.want, c.err)
	}
}

// table is two rows of three; solid two tables of three rows of four.
func table() api.Arr { return counted(2, 3) }
func solid() api.Arr { return counted(2, 3, 4) }

// eight are MaxRank axes, and one of them is 2.
func eight(two int) []int {
	shape := []int{1, 1, 1, 1, 1, 1, 1, 1}
	shape[two] = 2
	return shape
}

// mixed is of all kinds, in two rows: a number, a sign, two boxes.
func mixed() api.Arr {
	return with([]int{2, 2}, number(7), sign(0x2373), box(nums(1, 2)), box(list(sign(97), box(nums()))))
}

// numbered is the numbers from one up to another, that left out, or down to it.
func numbered(from, end int64) []int64 {
	l := []int64{}
	for n := from; n != end; {
		l = append(l, n)
		if n < end {
			n++
		} else {
			n--
		}
	}
	return l
}

// same is so many of one number.
func same(many int, n int64) []int64 { return slices.Repeat([]int64{n}, many) }

// ofOnes is the number 1 in each place of a shape.
func ofOnes(shape ...int) api.Arr {
	size, _ := arr.Size(shape)
	return of(shape, same(size, 1)...)
}

// boxed are boxes alike but for one thing each.
func boxed() []api.Cell {
	return []api.Cell{
		box(nums(1, 2)), box(nums(1, 3)), box(nums(1)), box(arr.Atom(1)), box(nums()), box(of([]int{0, 3})), box(of([]int{3, 0})), box(of([]int{1, 2}, 1, 2)), box(of([]int{2, 1}, 1, 2)), box(text("ab")), box(list(number(97), number(98))), box(list(number(1), box(nums(2)))), box(list(number(1), box(nums(3)))), box(boxes(7, nums())), box(boxes(7, nums(1))), box(boxes(6, nums())), box(atom(sign(1))),
	}
}

// indexCases: 7.1 of IndexOf.
func indexCases() []twoCase {
	abc := nums(3, 1, 2, 1)
	all := list(boxed()...)
	many := int64(len(all.Cells))
	rows := []struct {
		a, b, want api.Arr
		err        api.Errno
	}{
		// Ordinary ones: first, last, more than once, not there.
		{abc, arr.Atom(3), arr.Atom(0), api.OK}, {abc, arr.Atom(1), arr.Atom(1), api.OK}, {abc, arr.Atom(2), arr.Atom(2), api.OK}, {abc, arr.Atom(9), arr.Atom(4), api.OK}, {abc, arr.Atom(0), arr.Atom(4), api.OK}, {abc, nums(1, 2, 3, 4), nums(1, 2, 0, 4), api.OK}, {abc, nums(2), nums(2), api.OK}, {abc, abc, nums(0, 1, 2, 1), api.OK}, {nums(5, 5, 5), nums(5, 4, 6), nums(0, 3, 3), api.OK}, {nums(1, 2, 3), nums(3, 3), nums(2, 2), api.OK}, {nums(2, 9, 2, 9, 2), nums(9, 2), nums(1, 0), api.OK},
		{abc, of([]int{2, 3}, 1, 2, 3, 9, 1, -1), of([]int{2, 3}, 1, 2, 0, 4, 1, 4), api.OK}, {nums(23, 5, 0), solid(), of([]int{2, 3, 4}, 2, 3, 3, 3, 3, 1, 3, 3, 3, 3, 3, 3, 3, 3, 3, 3, 3, 3, 3, 3, 3, 3, 3, 0), api.OK}, {abc, of(eight(3), 2, 7), of(eight(3), 2, 4), api.OK}, {abc, of(eight(7), 1, 3), of(eight(7), 1, 0), api.OK},
		{nums(least, most, 0), nums(most, least, 0, least+1, most-1, -1), nums(1, 0, 2, 3, 3, 3), api.OK}, {nums(1<<32, 0), nums(0, 1<<32, 1), nums(1, 0, 2), api.OK},
		// In an empty list, in one of one, of an empty array.
		{nums(), arr.Atom(0), arr.Atom(0), api.OK}, {nums(), nums(0, 1), nums(0, 0), api.OK}, {nums(), table(), of([]int{2, 3}, 0, 0, 0, 0, 0, 0), api.OK}, {nums(), all, of([]int{len(all.Cells)}, same(len(all.Cells), 0)...), api.OK}, {nums(), nums(), nums(), api.OK}, {nums(7), arr.Atom(7), arr.Atom(0), api.OK}, {nums(7), arr.Atom(8), arr.Atom(1), api.OK}, {abc, nums(), nums(), api.OK}, {abc, of([]int{0, 3}), of([]int{0, 3}), api.OK}, {abc, of([]int{3, 0}), of([]int{3, 0}), api.OK}, {abc, of([]int{full, 0, full}), of([]int{full, 0, full}), api.OK}, {nums(), of([]int{0, full, full, full, full, full, full, full}), of([]int{0, full, full, full, full, full, full, full}), api.OK},
		// Numbers, signs, boxes.
		{text("banana"), text("nab"), nums(2, 1, 0), api.OK}, {text("banana"), atom(sign(120)), arr.Atom(6), api.OK}, {nums(97, 98), text("ab"), nums(2, 2), api.OK}, {text("ab"), nums(97, 98), nums(2, 2), api.OK}, {list(number(97), sign(97)), list(sign(97), number(97)), nums(1, 0), api.OK}, {list(sign(97), number(97), sign(97), number(97)), list(sign(97), number(97)), nums(0, 1), api.OK}, {list(sign(0), number(0)), list(number(0), sign(0), box(nums())), nums(1, 0, 2), api.OK},
		{all, all, nums(numbered(0, many)...), api.OK}, {list(slices.Concat(boxed(), boxed())...), list(slices.Concat(boxed(), boxed())...), nums(append(numbered(0, many), numbered(0, many)...)...), api.OK}, {list(box(nums(1, 2))), atom(box(nums(1, 2))), arr.Atom(0), api.OK}, {list(box(nums(1, 2))), nums(1, 2), nums(1, 1), api.OK}, {nums(1, 2), atom(box(nums(1, 2))), arr.Atom(2), api.OK}, {list(box(arr.Atom(1))), arr.Atom(1), arr.Atom(1), api.OK}, {list(box(nums(1)), box(nums(2)), box(nums(1))), list(box(nums(1)), box(nums(3)), box(nums(2))), nums(0, 3, 1), api.OK}, {list(mixed().Cells...), mixed(), of([]int{2, 2}, 0, 1, 2, 3), api.OK}, {list(number(0)), boxes(8, nums()), arr.Atom(1), api.OK}, {list(boxes(8, nums()).Cells...), boxes(8, nums()), arr.Atom(0), api.OK}, {list(boxes(8, nums()).Cells...), boxes(8, nums(0)), arr.Atom(1), api.OK},
		// As many as there may be.
		{counted(full), counted(full), counted(full), api.OK}, {of([]int{full}, numbered(full, 0)...), counted(full), of([]int{full}, append([]int64{full}, numbered(full-1, 0)...)...), api.OK}, {ofOnes(full), arr.Atom(1), arr.Atom(0), api.OK}, {ofOnes(full), arr.Atom(0), arr.Atom(full), api.OK}, {counted(full), of([]int{128, 128}, numbered(full-1, -1)...), of([]int{128, 128}, numbered(full-1, -1)...), api.OK},
		// In what is no list.
		{arr.Atom(2), arr.Atom(2), api.Arr{}, api.ErrRank}, {arr.Atom(2), nums(2), api.Arr{}, api.ErrRank}, {arr.Atom(2), nums(), api.Arr{}, api.ErrRank}, {atom(sign(97)), text("a"), api.Arr{}, api.ErrRank}, {atom(box(nums(1, 2))), nums(1, 2), api.Arr{}, api.ErrRank}, {table(), arr.Atom(2), api.Arr{}, api.ErrRank}, {table(), table(), api.Arr{}, api.ErrRank}, {of([]int{1, 1}, 1), arr.Atom(1), api.Arr{}, api.ErrRank}, {of([]int{0, 3}), arr.Atom(1), api.Arr{}, api.ErrRank}, {of([]int{3, 0}), nums(), api.Arr{}, api.ErrRank}, {solid(), arr.Atom(2), api.Arr{}, api.ErrRank}, {of(eight(0), 1, 2), arr.Atom(1), api.Arr{}, api.ErrRank}, {mixed(), mixed(), api.Arr{}, api.ErrRank},
	}
	l := []twoCase{}
	for _, r := range rows {
		l = append(l, twoCase{api.IndexOf, r.a, r.b, r.want, r.err})
	}
	return l
}

// TestIndexOf: 7.1.
func TestIndexOf(t *testing.T) { expectTwos(t, indexCases()) }

// memberCases: 7.1 of Member.
func memberCases() []twoCase {
	abc := nums(3, 1, 2, 1)
	all := list(boxed()...)
	rows := []struct {
		a, b, want api.Arr
	}{
		{arr.Atom(3), abc, arr.Atom(1)}, {arr.Atom(1), abc, arr.Atom(1)}, {arr.Atom(2), abc, arr.Atom(1)}, {arr.Atom(9), abc, arr.Atom(0)}, {arr.Atom(0), abc, arr.Atom(0)}, {nums(0, 1, 2, 3, 4), abc, nums(0, 1, 1, 1, 0)}, {abc, nums(1, 9), nums(0, 1, 0, 1)}, {abc, abc, nums(1, 1, 1, 1)}, {nums(5), nums(5), nums(1)}, {nums(5), nums(4, 6), nums(0)}, {nums(4, 5, 6), nums(5, 5), nums(0, 1, 0)},
		// Of an atom, in one; of arrays of axes, in them.
		{arr.Atom(7), arr.Atom(7), arr.Atom(1)}, {arr.Atom(7), arr.Atom(8), arr.Atom(0)}, {abc, arr.Atom(1), nums(0, 1, 0, 1)}, {table(), arr.Atom(5), of([]int{2, 3}, 0, 0, 0, 0, 0, 1)}, {table(), nums(1, 4, 9), of([]int{2, 3}, 0, 1, 0, 0, 1, 0)}, {arr.Atom(5), table(), arr.Atom(1)}, {arr.Atom(6), table(), arr.Atom(0)}, {nums(0, 5, 6), table(), nums(1, 1, 0)}, {table(), table(), ofOnes(2, 3)}, {table(), solid(), ofOnes(2, 3)}, {counted(2, 2, 2), table(), of([]int{2, 2, 2}, 1, 1, 1, 1, 1, 1, 0, 0)}, {of(eight(3), 1, 9), table(), of(eight(3), 1, 0)}, {nums(2, 1, 3), of(eight(5), 1, 2), nums(1, 1, 0)}, {of(eight(0), 1, 3), of(eight(7), 3, 2), of(eight(0), 0, 1)},
		{nums(least, most, 0), nums(most, least), nums(1, 1, 0)}, {nums(0, 1<<32), arr.Atom(1 << 32), nums(0, 1)},
		// Of empty arrays, and in them.
		{nums(), nums(), nums()}, {nums(), abc, nums()}, {nums(), arr.Atom(1), nums()}, {of([]int{0, 3}), abc, of([]int{0, 3})}, {of([]int{3, 0}), of([]int{0, 3}), of([]int{3, 0})}, {of([]int{full, full, full, full, full, full, full, 0}), nums(), of([]int{full, full, full, full, full, full, full, 0})}, {arr.Atom(0), nums(), arr.Atom(0)}, {abc, nums(), nums(0, 0, 0, 0)}, {table(), of([]int{0, 3}), of([]int{2, 3}, 0, 0, 0, 0, 0, 0)}, {arr.Atom(0), of([]int{3, 0}), arr.Atom(0)}, {mixed(), nums(), of([]int{2, 2}, 0, 0, 0, 0)},
		// Numbers, signs, boxes.
		{text("abc"), text("cab"), nums(1, 1, 1)}, {text("abc"), atom(sign(98)), nums(0, 1, 0)}, {text("abc"), nums(97, 98, 99), nums(0, 0, 0)}, {nums(97, 98), text("ab"), nums(0, 0)}, {list(number(97), sign(97)), atom(sign(97)), nums(0, 1)}, {list(number(97), sign(97)), atom(number(97)), nums(1, 0)}, {list(number(0), sign(0), box(nums())), nums(0), nums(1, 0, 0)}, {all, all, ofOnes(len(all.Cells))}, {list(all.Cells[:3]...), list(all.Cells[1:]...), nums(0, 1, 1)}, {all, nums(1, 2), of([]int{len(all.Cells)}, same(len(all.Cells), 0)...)}, {nums(1, 2), atom(box(nums(1, 2))), nums(0, 0)}, {atom(box(nums(1, 2))), atom(box(nums(1, 2))), arr.Atom(1)}, {atom(box(nums(1, 2))), atom(box(nums(1, 3))), arr.Atom(0)}, {mixed(), mixed(), ofOnes(2, 2)}, {mixed(), list(mixed().Cells[3], mixed().Cells[0]), of([]int{2, 2}, 1, 0, 0, 1)}, {boxes(8, nums()), boxes(8, nums()), arr.Atom(1)}, {boxes(8, nums()), boxes(8, nums(0)), arr.Atom(0)}, {boxes(8, nums()), boxes(7, nums()), arr.Atom(0)},
		{counted(full), of([]int{128, 128}, numbered(full, 0)...), of([]int{full}, append([]int64{0}, same(full-1, 1)...)...)}, {arr.Atom(full - 1), counted(full), arr.Atom(1)}, {arr.Atom(full), counted(full), arr.Atom(0)}, {counted(128, 128), counted(full), ofOnes(128, 128)},
	}
	l := []twoCase{}
	for _, r := range rows {
		l = append(l, twoCase{api.Member, r.a, r.b, r.want, api.OK})
	}
	return l
}

// TestMember: 7.1.
func TestMember(t *testing.T) { expectTwos(t, memberCases()) }

// orderCases: 7.2.
func orderCases() []oneCase {
	rows := []struct {
		a, up, down api.Arr
		err         api.Errno
	}{
		{a: nums(3, 1, 2, 1), up: nums(1, 3, 2, 0), down: nums(0, 2, 1, 3)}, {a: nums(1, 2, 3), up: nums(0, 1, 2), down: nums(2, 1, 0)}, {a: nums(3, 2, 1), up: nums(2, 1, 0), down: nums(0, 1, 2)}, {a: nums(-1, 1, -2, 0), up: nums(2, 0, 3, 1), down: nums(1, 3, 0, 2)}, {a: nums(10, 9, 100), up: nums(1, 0, 2), down: nums(2, 0, 1)},
		{a: nums(5), up: nums(0), down: nums(0)}, {a: nums(), up: nums(), down: nums()}, {a: nums(7, 7, 7), up: nums(0, 1, 2), down: nums(0, 1, 2)}, {a: nums(2, 1, 2, 1, 2), up: nums(1, 3, 0, 2, 4), down: nums(0, 2, 4, 1, 3)},
		{a: nums(0, most, least, -1, 1), up: nums(2, 3, 0, 4, 1), down: nums(1, 4, 0, 3, 2)}, {a: nums(least, most), up: nums(0, 1), down: nums(1, 0)}, {a: nums(most, least), up: nums(1, 0), down: nums(0, 1)}, {a: nums(most, most-1, least+1, least), up: nums(3, 2, 1, 0), down: nums(0, 1, 2, 3)},
		// Signs, by their numbers.
		{a: text("banana"), up: nums(1, 3, 5, 0, 2, 4), down: nums(2, 4, 0, 1, 3, 5)}, {a: text("aB"), up: nums(1, 0), down: nums(0, 1)}, {a: list(sign(0x10ffff), sign(0x2373), sign(0)), up: nums(2, 1, 0), down: nums(0, 1, 2)}, {a: with([]int{2, 2}, text("baab").Cells...), up: nums(1, 0), down: nums(0, 1)}, {a: text("a"), up: nums(0), down: nums(0)},
		// Items of more than one cell: the first one that differs tells.
		{a: of([]int{3, 2}, 2, 1, 1, 9, 2, 0), up: nums(1, 2, 0), down: nums(0, 2, 1)}, {a: of([]int{2, 3}, 1, 2, 3, 1, 2, 2), up: nums(1, 0), down: nums(0, 1)}, {a: of([]int{4, 2}, 1, 2, 1, 1, 0, 3, 1, 2), up: nums(2, 1, 0, 3), down: nums(0, 3, 1, 2)}, {a: of([]int{3, 2}, 5, 5, 5, 5, 5, 5), up: nums(0, 1, 2), down: nums(0, 1, 2)}, {a: of([]int{2, 2}, 0, 9, 1, 0), up: nums(0, 1), down: nums(1, 0)}, {a: of([]int{1, 3}, 3, 2, 1), up: nums(0), down: nums(0)}, {a: of([]int{3, 1}, 3, 1, 2), up: nums(1, 2, 0), down: nums(0, 2, 1)},
		{a: table(), up: nums(0, 1), down: nums(1, 0)}, {a: solid(), up: nums(0, 1), down: nums(1, 0)}, {a: of([]int{3, 2, 2}, 1, 1, 1, 2, 1, 1, 1, 1, 0, 9, 9, 9), up: nums(2, 1, 0), down: nums(0, 1, 2)}, {a: of(eight(0), 4, 3), up: nums(1, 0), down: nums(0, 1)}, {a: of(eight(7), 4, 3), up: nums(0), down: nums(0)}, {a: of([]int{2, 1, 1, 1, 1, 1, 1, 2}, 1, 2, 1, 1), up: nums(1, 0), down: nums(0, 1)},
		// No item, items without cells.
		{a: of([]int{0, 3}), up: nums(), down: nums()}, {a: of([]int{0, 0}), up: nums(), down: nums()}, {a: of([]int{3, 0}), up: nums(0, 1, 2), down: nums(0, 1, 2)}, {a: of([]int{1, 0}), up: nums(0), down: nums(0)}, {a: of([]int{2, 3, 0}), up: nums(0, 1), down: nums(0, 1)}, {a: of([]int{full, 0, full}), up: counted(full), down: counted(full)}, {a: of([]int{0, full, full, full, full, full, full, full}), up: nums(), down: nums()}, {a: of([]int{2, full, full, full, full, full, full, 0}), up: nums(0, 1), down: nums(0, 1)},
		// As many as there may be.
		{a: counted(full), up: counted(full), down: nums(numbered(full-1, -1)...)}, {a: nums(numbered(full-1, -1)...), up: nums(numbered(full-1, -1)...), down: counted(full)}, {a: ofOnes(full), up: counted(full), down: counted(full)}, {a: counted(128, 128), up: counted(128), down: nums(numbered(127, -1)...)}, {a: counted(1, full), up: nums(0), down: nums(0)},
		// An atom has no items.
		{a: arr.Atom(2), err: api.ErrRank}, {a: atom(sign(97)), err: api.ErrRank}, {a: atom(box(nums(1))), err: api.ErrRank}, {a: boxes(8, nums()), err: api.ErrRank},
		// Neither all numbers nor all signs.
		{a: list(number(1), sign(97)), err: api.ErrDomain}, {a: list(sign(97), number(1)), err: api.ErrDomain}, {a: list(sign(97), sign(98), number(1)), err: api.ErrDomain}, {a: list(number(1), number(1), sign(1)), err: api.ErrDomain}, {a: list(box(nums(1))), err: api.ErrDomain}, {a: list(box(nums(1)), box(nums(2))), err: api.ErrDomain}, {a: list(number(1), box(nums(2))), err: api.ErrDomain}, {a: list(box(nums(2)), sign(97)), err: api.ErrDomain}, {a: list(sign(97), box(text("a"))), err: api.ErrDomain}, {a: mixed(), err: api.ErrDomain}, {a: with([]int{2, 1}, number(1), sign(1)), err: api.ErrDomain}, {a: with([]int{1, 2}, number(1), sign(1)), err: api.ErrDomain}, {a: with(eight(4), box(nums()), box(nums())), err: api.ErrDomain},
	}
	l := []oneCase{}
	for _, r := range rows {
		l = append(l, oneCase{api.Up, r.a, r.up, r.err}, oneCase{api.Down, r.a, r.down, r.err})
	}
	return l
}

// TestOrder: 7.2.
func TestOrder(t *testing.T) { expectOnes(t, orderCases()) }

// onceCases: 7.3.
func onceCases() []oneCase {
	all := boxed()
	rows := []struct{ a, want api.Arr }{
		{nums(3, 1, 2, 1), nums(3, 1, 2)}, {nums(1, 2, 3), nums(1, 2, 3)}, {nums(3, 2, 1), nums(3, 2, 1)}, {nums(7, 7, 7), nums(7)}, {nums(1, 1, 0, 0, 1, 0), nums(1, 0)}, {nums(5), nums(5)}, {nums(), nums()}, {nums(most, least, most, least+1, least), nums(most, least, least+1)}, {nums(0, 1<<32, 0), nums(0, 1<<32)},
		// An atom is a list of one.
		{arr.Atom(5), nums(5)}, {atom(sign(97)), text("a")}, {atom(box(nums(1, 2))), list(box(nums(1, 2)))}, {boxes(8, nums()), list(boxes(8, nums()).Cells...)},
		// Numbers, signs, boxes.
		{text("banana"), text("ban")}, {text("aab"), text("ab")}, {list(number(97), sign(97), number(97), sign(97)), list(number(97), sign(97))}, {list(sign(97), number(97), sign(97)), list(sign(97), number(97))}, {list(box(nums(1)), box(nums(1))), list(box(nums(1)))}, {list(box(nums(1)), nums(1).Cells[0]), list(box(nums(1)), number(1))}, {list(all...), list(all...)}, {list(slices.Concat(all, all)...), list(all...)}, {list(slices.Repeat(boxes(8, nums(1)).Cells, 3)...), list(boxes(8, nums(1)).Cells...)}, {list(box(nums(2)), box(nums(1)), box(nums(2)), number(0), box(nums(1)), sign(0)), list(box(nums(2)), box(nums(1)), number(0), sign(0))},
		// Of axes: whole items.
		{table(), table()}, {of([]int{3, 2}, 1, 2, 3, 4, 1, 2), of([]int{2, 2}, 1, 2, 3, 4)}, {of([]int{3, 2}, 1, 2, 1, 3, 1, 2), of([]int{2, 2}, 1, 2, 1, 3)}, {of([]int{3, 2}, 1, 2, 2, 2, 3, 2), of([]int{3, 2}, 1, 2, 2, 2, 3, 2)}, {of([]int{2, 3}, 4, 5, 6, 4, 5, 6), of([]int{1, 3}, 4, 5, 6)}, {of([]int{2, 2}, 1, 1, 1, 1), of([]int{1, 2}, 1, 1)}, {of([]int{2, 2}, 1, 2, 2, 1), of([]int{2, 2}, 1, 2, 2, 1)}, {of([]int{3, 1}, 2, 1, 2), of([]int{2, 1}, 2, 1)}, {of([]int{1, 3}, 2, 2, 2), of([]int{1, 3}, 2, 2, 2)}, {solid(), solid()}, {of([]int{3, 2, 2}, 1, 2, 3, 4, 1, 2, 3, 5, 1, 2, 3, 4), of([]int{2, 2, 2}, 1, 2, 3, 4, 1, 2, 3, 5)}, {mixed(), mixed()}, {with([]int{4, 2}, slices.Concat(mixed().Cells, mixed().Cells)...), mixed()}, {of(eight(0), 3, 4), of(eight(0), 3, 4)}, {of(eight(0), 3, 3), of([]int{1, 1, 1, 1, 1, 1, 1, 1}, 3)}, {of(eight(7), 3, 3), of(eight(7), 3, 3)}, {with([]int{2, 2}, text("abab").Cells...), with([]int{1, 2}, text("ab").Cells...)},
		// Items without cells are all the same.
		{of([]int{3, 0}), of([]int{1, 0})}, {of([]int{2, 0}), of([]int{1, 0})}, {of([]int{1, 0}), of([]int{1, 0})}, {of([]int{0, 0}), of([]int{0, 0})}, {of([]int{0, 3}), of([]int{0, 3})}, {of([]int{2, 3, 0}), of([]int{1, 3, 0})}, {of([]int{2, 0, 3}), of([]int{1, 0, 3})}, {of([]int{full, 0, full}), of([]int{1, 0, full})}, {of([]int{full, full, full, full, full, full, full, 0}), of([]int{1, full, full, full, full, full, full, 0})}, {of([]int{0, full, full, full, full, full, full, full}), of([]int{0, full, full, full, full, full, full, full})},
		// As many as there may be.
		{counted(full), counted(full)}, {nums(numbered(full, 0)...), nums(numbered(full, 0)...)}, {ofOnes(full), nums(1)}, {counted(128, 128), counted(128, 128)}, {ofOnes(128, 128), ofOnes(1, 128)}, {counted(1, full), counted(1, full)}, {counted(full, 1), counted(full, 1)},
	}
	l := []oneCase{}
	for _, r := range rows {
		l = append(l, oneCase{api.Uniq, r.a, r.want, api.OK})
	}
	return l
}

// TestOnce: 7.3.
func TestOnce(t *testing.T) { expectOnes(t, onceCases()) }

// wrongArray may not be, or may not stand somewhere.
type wrongArray struct {
	a   api.Arr
	err api.Errno
}

func wrongArrays() []wrongArray {
	return []wrongArray{
		{api.Arr{}, api.ErrArg},
		{of(nil, 1, 2), api.ErrArg},
		{of([]int{2}, 1), api.ErrArg},
		{of([]int{0, 3}, 1), api.ErrArg},
		{of([]int{-1}), api.ErrArg},
		{of([]int{1, 1, 1, 1, 1, 1, 1, 1, 1}, 1), api.ErrRank},
		{of([]int{1, 1, 1, 1, 1, 1, 1, 1, 0}), api.ErrRank},
		{of([]int{16385}), api.ErrCells},
		{of([]int{16385, 0}), api.ErrCells},
		{boxes(9, arr.Atom(1)), api.ErrDeep},
		{atom(api.Cell{Kind: 3}), api.ErrArg},
		{list(number(1), api.Cell{Kind: -1}), api.ErrArg},
		{list(sign(97), sign(0xd800)), api.ErrArg},
		{list(number(1), api.Cell{Kind: api.CBox}), api.ErrArg},
		{atom(api.Cell{Kind: api.CBox, Box: []api.Arr{arr.Atom(1), arr.Atom(2)}}), api.ErrArg},
		{list(api.Cell{Kind: api.CInt, Box: []api.Arr{arr.Atom(1)}}), api.ErrArg},
		{atom(box(of([]int{16385}))), api.ErrCells},
	}
}

// goodArrays may be.
func goodArrays() []api.Arr {
	return []api.Arr{arr.Atom(0), arr.Atom(-1), arr.Atom(most), nums(), nums(1, 2), atom(sign(97)), boxes(8, nums()), of([]int{0, 3}), of([]int{3, 0}), of(eight(0), 1, 2), table()}
}

// TestWrong: a's error, then b's, ahead of all others, whatever is asked for.
func TestWrong(t *testing.T) {
	for _, op := range anyOps() {
		for _, w := range wrongArrays() {
			got, e := seek.Mo(op, w.a)
			expect(t, "of one that may not be", got, e, api.Arr{}, w.err)
			for _, other := range goodArrays() {
				got, e := seek.Dy(op, w.a, other)
				expect(t, "by what may not be", got, e, api.Arr{}, w.err)
				got, e = seek.Dy(op, other, w.a)
				expect(t, "of what may not be", got, e, api.Arr{}, w.err)
			}
			for _, other := range wrongArrays() {
				got, e := seek.Dy(op, w.a, other.a)
				expect(t, "of both that may not be", got, e, api.Arr{}, w.err)
			}
		}
	}
}

// TestNone: numbers that name none of the functions of this layer, or one of as many arguments as are not there.
func TestNone(t *testing.T) {
	for _, op := range anyOps() {
		for _, a := range goodArrays() {
			if !slices.Contains(ones(), op) {
				got, e := seek.Mo(op, a)
				expect(t, "of a number that names none", got, e, api.Arr{}, api.ErrArg)
			}
			for _, b := range goodArrays() {
				if !slices.Contains(twos(), op) {
					got, e := seek.Dy(op, a, b)
					expect(t, "by a number that names none", got, e, api.Arr{}, api.ErrArg)
				}
			}
		}
	}
}

// shapes are those of many ranks, empty ones among them.
func shapes() [][]int {
	return [][]int{
		nil, {0}, {1}, {2}, {7}, {40}, {300}, {1, 1}, {2, 3}, {30, 2}, {5, 1}, {1, 5}, {0, 3}, {3, 0}, {0, 0}, {20, 2, 2}, {4, 3, 2}, {3, 1, 2}, {2, 0, 3}, {0, 2, 3}, {2, 3, 0}, {2, 2, 2, 2, 2, 2, 2, 2}, {1, 1, 1, 1, 1, 1, 1, 1}, {9, 1, 1, 1, 1, 1, 1, 2}, {500, 0, 16384}, {3, 2, 1, 2, 0, 2, 1, 2},
	}
}

// filled is an array of a shape with cells of some kinds by chance, so few different ones that many are the same.
func filled(r *rand.Rand, shape []int, kinds ...int) api.Arr {
	size, _ := arr.Size(shape)
	a := api.Arr{Shape: shape, Cells: make([]api.Cell, size)}
	few := int64(2 + r.Intn(20))
	for i := range a.Cells {
		switch n := r.Int63n(few); kinds[r.Intn(len(kinds))] {
		case api.CChar:
			a.Cells[i] = sign(n)
		case api.CBox:
			a.Cells[i] = box(list(number(n/3), box(arr.Atom(n%3)), sign(97)))
		default:
			a.Cells[i] = number(n)
		}
	}
	return a
}

// cellAt is the cell at places of an array.
func cellAt(a api.Arr, at []int) api.Cell {
	i, _ := arr.Place(a.Shape, at)
	return a.Cells[i]
}

// itemAt is an item of an array, place by place.
func itemAt(a api.Arr, i int) api.Arr {
	out := api.Arr{Shape: a.Shape[1:]}
	size, _ := arr.Size(out.Shape)
	for n := range size {
		at, _ := arr.Places(out.Shape, n)
		out.Cells = append(out.Cells, cellAt(a, append([]int{i}, at...)))
	}
	return out
}

// listed is an atom as a list of one.
func listed(a api.Arr) api.Arr {
	if len(a.Shape) == 0 {
		return list(a.Cells...)
	}
	return a
}

// placeOf is where a cell stands first, gone through one by one.
func placeOf(l []api.Cell, c api.Cell) int64 {
	for i, other := range l {
		if alikeCells(other, c) {
			return int64(i)
		}
	}
	return int64(len(l))
}

// wantIndex and wantMember are 7.1, said again.
func wantIndex(a, b api.Arr) (api.Arr, api.Errno) {
	if len(a.Shape) != 1 {
		return api.Arr{}, api.ErrRank
	}
	out := api.Arr{Shape: b.Shape}
	for _, c := range b.Cells {
		out.Cells = append(out.Cells, number(placeOf(a.Cells, c)))
	}
	return out, api.OK
}

func wantMember(a, b api.Arr) api.Arr {
	out := api.Arr{Shape: a.Shape}
	for _, c := range a.Cells {
		n := int64(0)
		if placeOf(b.Cells, c) < int64(len(b.Cells)) {
			n = 1
		}
		out.Cells = append(out.Cells, number(n))
	}
	return out
}

// TestFound: 7.1 of arrays of many shapes, cell by cell.
func TestFound(t *testing.T) {
	r := rand.New(rand.NewSource(71))
	for _, one := range shapes() {
		for _, two := range shapes() {
			a, b := filled(r, one, api.CInt, api.CChar, api.CBox), filled(r, two, api.CBox, api.CInt, api.CChar, api.CInt)
			got, e := seek.Dy(api.IndexOf, a, b)
			want, wantErr := wantIndex(a, b)
			expect(t, "IndexOf", got, e, want, wantErr)
			got, e = seek.Dy(api.Member, a, b)
			expect(t, "Member", got, e, wantMember(a, b), api.OK)
		}
	}
}

// wantOrder is 7.2 of numbers or signs, said again: an item's place is how many stand ahead of it.
func wantOrder(a api.Arr, way int) api.Arr {
	items := []api.Arr{}
	for i := range a.Shape[0] {
		items = append(items, itemAt(a, i))
	}
	out := make([]int64, len(items))
	for i := range items {
		ahead := 0
		for k := range items {
			if c := way * arr.Cmp(items[k], items[i]); c < 0 || c == 0 && k < i {
				ahead++
			}
		}
		out[ahead] = int64(i)
	}
	return nums(out...)
}

// wantOnce is 7.3, said again: an item is left out if one of those ahead is alike.
func wantOnce(a api.Arr) api.Arr {
	a = listed(a)
	out := api.Arr{Shape: slices.Clone(a.Shape)}
	out.Shape[0] = 0
	kept := []api.Arr{}
	for i := range a.Shape[0] {
		item := itemAt(a, i)
		if !slices.ContainsFunc(kept, func(k api.Arr) bool { return alike(k, item) }) {
			kept = append(kept, item)
			out.Shape[0]++
			out.Cells = append(out.Cells, item.Cells...)
		}
	}
	return out
}

// TestItems: 7.2 and 7.3 of arrays of many shapes, item by item.
func TestItems(t *testing.T) {
	r := rand.New(rand.NewSource(72))
	for _, shape := range shapes() {
		for range 4 {
			for _, kind := range []int{api.CInt, api.CChar} {
				a := filled(r, shape, kind)
				if len(shape) > 0 {
					got, e := seek.Mo(api.Up, a)
					expect(t, "Up", got, e, wantOrder(a, 1), api.OK)
					got, e = seek.Mo(api.Down, a)
					expect(t, "Down", got, e, wantOrder(a, -1), api.OK)
				}
				got, e := seek.Mo(api.Uniq, a)
				expect(t, "Uniq", got, e, wantOnce(a), api.OK)
			}
			a := filled(r, shape, api.CInt, api.CChar, api.CBox)
			got, e := seek.Mo(api.Uniq, a)
			expect(t, "Uniq", got, e, wantOnce(a), api.OK)
		}
	}
}

// mo is an answer where no error is asked for.
func mo(t *testing.T, op int, a api.Arr) api.Arr {
	t.Helper()
	out, e := seek.Mo(op, a)
	if e != api.OK {
		t.Fatalf("Mo(%d, %v): %v", op, short(a), e)
	}
	return out
}

// expectWay: the items of an array, looked up by an order of them, go one way; each is there.
func expectWay(t *testing.T, a, order api.Arr, way int) {
	t.Helper()
	there := make([]bool, a.Shape[0])
	for n, c := range order.Cells {
		there[c.N] = true
		if n == 0 {
			continue
		}
		before := order.Cells[n-1].N
		by := way * arr.Cmp(itemAt(a, int(before)), itemAt(a, int(c.N)))
		if by > 0 || by == 0 && before > c.N {
			t.Errorf("%v: %v: %d stands wrong", short(a), short(order), n)
		}
	}
	if slices.Contains(there, false) || len(order.Cells) != len(there) {
		t.Errorf("%v: %v: not each just once", short(a), short(order))
	}
}

// TestFollows: 7.4: items looked up by their order rise, or fall; of items each once no two are the same, and each item is one of them.
func TestFollows(t *testing.T) {
	r := rand.New(rand.NewSource(74))
	for _, shape := range slices.Concat(shapes(), [][]int{{full}, {128, 128}, {full / 4, 2, 2}}) {
		a := filled(r, shape, api.CInt)
		if len(shape) > 0 {
			expectWay(t, a, mo(t, api.Up, a), 1)
			expectWay(t, a, mo(t, api.Down, a), -1)
		}
		a = filled(r, shape, api.CInt, api.CChar, api.CBox)
		once := mo(t, api.Uniq, a)
		expect(t, "once each twice", mo(t, api.Uniq, once), api.OK, once, api.OK)
		for i := range min(once.Shape[0], 200) {
			for k := range i {
				if arr.Same(itemAt(once, i), itemAt(once, k)) {
					t.Errorf("%v: the same twice", short(once))
				}
			}
		}
	}
}

// TestMayBe: 7.4 and P1: whatever comes of arrays that may be may be.
func TestMayBe(t *testing.T) {
	r := rand.New(rand.NewSource(75))
	all := slices.Concat(goodArrays(), []api.Arr{mixed(), solid(), boxes(3, solid()), of([]int{0, full, full, full, full, full, full, full}), of([]int{full, full, full, full, full, full, full, 0}), counted(full), list(boxed()...)})
	for _, shape := range shapes() {
		all = append(all, filled(r, shape, api.CInt, api.CChar, api.CBox), filled(r, shape, api.CChar))
	}
	for _, a := range all {
		for _, op := range ones() {
			got, e := seek.Mo(op, a)
			if e == api.OK && arr.Check(got) != api.OK || e != api.OK && !alike(got, api.Arr{}) {
				t.Errorf("Mo(%d, %v): %v, %v", op, short(a), short(got), e)
			}
		}
		for _, b := range all {
			for _, op := range twos() {
				got, e := seek.Dy(op, a, b)
				if e == api.OK && arr.Check(got) != api.OK || e != api.OK && !alike(got, api.Arr{}) {
					t.Errorf("Dy(%d, %v, %v): %v, %v", op, short(a), short(b), short(got), e)
				}
			}
		}
	}
}

// spoil changes all that an array holds, and what lies behind its lists.
func spoil(a api.Arr) {
	shape := a.Shape[:cap(a.Shape)]
	for i := range shape {
		shape[i] = 77
	}
	cells := a.Cells[:cap(a.Cells)]
	for i := range cells {
		within := cells[i].Box[:cap(cells[i].Box)]
		for k := range within {
			spoil(within[k])
			within[k] = arr.Atom(77)
		}
		cells[i] = api.Cell{Kind: 77, N: 77}
	}
}

// TestStays: R3 and P7: what came in stays as it was, an answer shares nothing with it, nor with another answer, and is alike each time.
func TestStays(t *testing.T) {
	for _, c := range slices.Concat(indexCases(), memberCases()) {
		a, b := arr.Copy(c.a), arr.Copy(c.b)
		expectApart(t, c.op, []api.Arr{a, b}, c.err, func() (api.Arr, api.Errno) { return seek.Dy(c.op, a, b) })
	}
	for _, c := range slices.Concat(orderCases(), onceCases()) {
		a := arr.Copy(c.a)
		expectApart(t, c.op, []api.Arr{a}, c.err, func() (api.Arr, api.Errno) { return seek.Mo(c.op, a) })
	}
}

// expectApart: a call leaves what it is given as it was, and answers alike twice, in memory of its own.
func expectApart(t *testing.T, op int, given []api.Arr, err api.Errno, call func() (api.Arr, api.Errno)) {
	t.Helper()
	was := []api.Arr{}
	for _, a := range given {
		was = append(was, arr.Copy(a))
	}
	got, e := call()
	second, e2 := call()
	want := arr.Copy(got)
	if !slices.EqualFunc(given, was, alike) || !alike(got, second) || e != err || e2 != err {
		t.Errorf("%d of %v: changed, or not alike twice", op, short(was[0]))
	}
	spoil(got)
	if !slices.EqualFunc(given, was, alike) || !alike(second, want) {
		t.Errorf("%d of %v: what it answers is shared", op, short(was[0]))
	}
	for _, a := range given {
		spoil(a)
	}
	if !alike(second, want) {
		t.Errorf("%d of %v: it answers what came in", op, short(was[0]))
	}
}

// TestOneTwice: R3: one array as both arguments stays, too.
func TestOneTwice(t *testing.T) {
	for op, want := range map[int]api.Arr{api.IndexOf: nums(0, 1, 0), api.Member: nums(1, 1, 1)} {
		a := nums(7, 5, 7)
		got, e := seek.Dy(op, a, a)
		expect(t, "of one array twice", got, e, want, api.OK)
		spoil(got)
		expect(t, "that array", a, api.OK, nums(7, 5, 7), api.OK)
	}
}

// TestBehind: R3: what lies behind the lists' lengths is neither read, nor written, nor handed out.
func TestBehind(t *testing.T) {
	for _, op := range slices.Concat(twos(), ones()) {
		for _, ranks := range [][2]int{{0, 0}, {0, 1}, {1, 0}, {0, 2}, {1, 1}, {1, 2}, {2, 1}, {2, 2}} {
			one, two := []int{2, 2, 5}, []int{2, 2, 6}
			few := []api.Cell{number(3), number(0), number(1), number(0), sign(97)}
			cells := []api.Cell{number(1), box(nums(2)), sign(97), number(0), number(3)}
			a := api.Arr{Shape: one[:ranks[0]], Cells: few[:1<<ranks[0]]}
			b := api.Arr{Shape: two[:ranks[1]], Cells: cells[:1<<ranks[1]]}
			for _, call := range []func(a, b api.Arr) (api.Arr, api.Errno){
				func(a, b api.Arr) (api.Arr, api.Errno) { return seek.Dy(op, a, b) },
				func(a, b api.Arr) (api.Arr, api.Errno) { return seek.Mo(op, a) },
				func(a, b api.Arr) (api.Arr, api.Errno) { return seek.Mo(op, b) },
			} {
				got, e := call(a, b)
				want, wantErr := call(arr.Copy(a), arr.Copy(b))
				expect(t, "with memory behind", got, e, want, wantErr)
				spoil(got)
			}
			if !slices.Equal(one, []int{2, 2, 5}) || !slices.Equal(two, []int{2, 2, 6}) || !alike(list(few...), list(number(3), number(0), number(1), number(0), sign(97))) || !alike(list(cells...), list(number(1), box(nums(2)), sign(97), number(0), number(3))) {
				t.Errorf("%d changed: %v, %v, %v, %v", op, one, two, few, cells)
			}
		}
	}
}

// TestMany: P1: as many cells as there may be are found among as many, boxes too.
func TestMany(t *testing.T) {
	a := api.Arr{Shape: []int{full}}
	for i := range int64(full) {
		a.Cells = append(a.Cells, box(nums(1, 2, 3, 5*i%full)))
	}
	got, e := seek.Dy(api.IndexOf, a, a)
	expect(t, "IndexOf", got, e, counted(full), api.OK)
	got, e = seek.Dy(api.Member, a, a)
	expect(t, "Member", got, e, ofOnes(full), api.OK)
	got, e = seek.Mo(api.Uniq, a)
	expect(t, "Uniq", got, e, a, api.OK)
}

// TestExamples: the chapter's.
func TestExamples(t *testing.T) {
	a := nums(3, 1, 2, 1)
	expectOnes(t, []oneCase{{api.Up, a, nums(1, 3, 2, 0), api.OK}, {api.Down, a, nums(0, 2, 1, 3), api.OK}, {api.Uniq, a, nums(3, 1, 2), api.OK}, {api.Up, arr.Atom(2), api.Arr{}, api.ErrRank}})
	expectTwos(t, []twoCase{{api.IndexOf, a, arr.Atom(2), arr.Atom(2), api.OK}, {api.IndexOf, a, arr.Atom(9), arr.Atom(4), api.OK}})
}
