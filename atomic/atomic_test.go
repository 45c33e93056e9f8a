package atomic_test

import (
	"math"
	"math/big"
	"math/rand"
	"slices"
	"testing"

	"triglyph/api"
	"triglyph/arr"
	"triglyph/atomic"
)

const (
	least = math.MinInt64
	most  = math.MaxInt64
)

// number, sign and box are cells that may be.
func number(n int64) api.Cell { return api.Cell{Kind: api.CInt, N: n} }
func sign(n int64) api.Cell   { return api.Cell{Kind: api.CChar, N: n} }
func box(a api.Arr) api.Cell  { return api.Cell{Kind: api.CBox, Box: []api.Arr{a}} }

// atom, list and of are arrays of cells.
func atom(c api.Cell) api.Arr    { return api.Arr{Cells: []api.Cell{c}} }
func list(c ...api.Cell) api.Arr { return api.Arr{Shape: []int{len(c)}, Cells: c} }
func of(shape []int, l ...int64) api.Arr {
	return api.Arr{Shape: shape, Cells: arr.Nums(l).Cells}
}

// nums is a list of numbers.
func nums(l ...int64) api.Arr { return arr.Nums(l) }

// allOver is an array of a shape that has one cell all over.
func allOver(shape []int, c api.Cell) api.Arr {
	n := 1
	for _, long := range shape {
		n *= long
	}
	return api.Arr{Shape: shape, Cells: slices.Repeat([]api.Cell{c}, n)}
}

// alike: the same fields all the way down; nil and nothing are alike.
func alike(a, b api.Arr) bool {
	return slices.Equal(a.Shape, b.Shape) && slices.EqualFunc(a.Cells, b.Cells, alikeCells)
}

func alikeCells(a, b api.Cell) bool {
	return a.Kind == b.Kind && a.N == b.N && slices.EqualFunc(a.Box, b.Box, alike)
}

// ones and twos are the functions that go cell by cell.
func ones() []int { return []int{api.Neg, api.Sgn, api.Abs, api.Not} }
func twos() []int {
	return []int{api.Add, api.Sub, api.Mul, api.Min, api.Max, api.Res, api.Eq, api.Ne, api.Lt, api.Gt, api.Le, api.Ge}
}

// anyOps are numbers of functions, and numbers that name none.
func anyOps() []int {
	l := []int{math.MinInt, math.MinInt + 27, math.MinInt32, -1 << 16, 1 << 16, 1<<32 + api.Add, 1<<32 + api.Neg, math.MaxInt32, math.MaxInt - 27, math.MaxInt}
	for op := -70; op <= 130; op++ {
		l = append(l, op)
	}
	return l
}

// edges are numbers about which something may go wrong: the ends, 0, and the roots of the ends.
func edges() []int64 {
	l := []int64{least, least + 1, least + 2, most - 2, most - 1, most, 1 << 31, 1 << 32, -1 << 31, -1 << 32, 1 << 62, -1 << 62, 3037000499, 3037000500, -3037000499, -3037000500}
	for n := int64(-7); n <= 7; n++ {
		l = append(l, n)
	}
	return l
}

// fit is an exact number as the document asks for it.
func fit(n *big.Int) (int64, api.Errno) {
	if !n.IsInt64() {
		return 0, api.ErrOverflow
	}
	return n.Int64(), api.OK
}

// truth is 1 or 0.
func truth(yes bool) (int64, api.Errno) {
	if yes {
		return 1, api.OK
	}
	return 0, api.OK
}

// wantOne is 4.1 of a number, said again with numbers of any size.
func wantOne(op int, n int64) (int64, api.Errno) {
	x := big.NewInt(n)
	switch op {
	case api.Neg:
		return fit(x.Neg(x))
	case api.Sgn:
		return int64(x.Sign()), api.OK
	case api.Abs:
		return fit(x.Abs(x))
	}
	if n != 0 && n != 1 {
		return 0, api.ErrDomain
	}
	return 1 - n, api.OK
}

// wantRes is 1.4, with numbers of any size: big's rest is from 0 up, whatever the sign.
func wantRes(a, b *big.Int) (int64, api.Errno) {
	if a.Sign() == 0 {
		return fit(b)
	}
	rest := new(big.Int).Mod(b, a)
	if a.Sign() < 0 && rest.Sign() != 0 {
		rest.Add(rest, a)
	}
	return fit(rest)
}

// wantTwo is 4.2 of two numbers, said again with numbers of any size.
func wantTwo(op int, a, b int64) (int64, api.Errno) {
	x, y, z := big.NewInt(a), big.NewInt(b), new(big.Int)
	lesser, greater := x, y
	if x.Cmp(y) > 0 {
		lesser, greater = y, x
	}
	switch op {
	case api.Add:
		return fit(z.Add(x, y))
	case api.Sub:
		return fit(z.Sub(x, y))
	case api.Mul:
		return fit(z.Mul(x, y))
	case api.Min:
		return fit(lesser)
	case api.Max:
		return fit(greater)
	case api.Res:
		return wantRes(x, y)
	case api.Eq:
		return truth(a == b)
	case api.Ne:
		return truth(a != b)
	case api.Lt:
		return truth(a < b)
	case api.Gt:
		return truth(a > b)
	case api.Le:
		return truth(a <= b)
	}
	return truth(a >= b)
}

// wantCell is 4.2 of any two cells.
func wantCell(op int, a, b api.Cell) (api.Cell, api.Errno) {
	n, e := int64(0), api.ErrDomain
	switch {
	case !slices.Contains(twos(), op):
		e = api.ErrArg
	case op != api.Eq && op != api.Ne:
		if a.Kind == api.CInt && b.Kind == api.CInt {
			n, e = wantTwo(op, a.N, b.N)
		}
	case a.Kind != api.CBox && b.Kind != api.CBox:
		n, e = truth((a.Kind == b.Kind && a.N == b.N) == (op == api.Eq))
	}
	return number(n), e
}

// kinds are cells of all kinds and of none, those that may not be too.
func kinds() []api.Cell {
	one, two := atom(number(1)), atom(number(2))
	return []api.Cell{
		number(0), number(1), number(97), number(least), number(most),
		sign(0), sign(1), sign(97), sign(0x10ffff), sign(-1), sign(least),
		box(one), box(two), box(box2()), {Kind: api.CBox}, {Kind: api.CBox, N: 97}, {Kind: api.CBox, N: 97, Box: []api.Arr{one, two}},
		{Kind: 3}, {Kind: 3, N: 97}, {Kind: -1}, {Kind: -1, N: 97}, {Kind: math.MaxInt, N: 1}, {Kind: math.MinInt, N: 1}, {Kind: 3, N: 97, Box: []api.Arr{one}},
		// Its Kind alone makes a cell a number, a sign or a box.
		{Kind: api.CInt, N: 97, Box: []api.Arr{one}}, {Kind: api.CInt, N: 97, Box: []api.Arr{two, one}}, {Kind: api.CChar, N: 97, Box: []api.Arr{one}},
	}
}

func box2() api.Arr { return list(box(nums(1, 2)), sign(97)) }

// expectCell holds an answer against the one asked for.
func expectCell(t *testing.T, op int, a, b api.Cell, want api.Cell, wantErr api.Errno) {
	t.Helper()
	got, e := atomic.Cell(op, a, b)
	if e != wantErr || !alikeCells(got, want) {
		t.Errorf("Cell(%d, %v, %v): %v, %v; want %v, %v", op, a, b, got, e, want, wantErr)
	}
}

// expect holds an answer against the one asked for: with an error nothing else.
func expect(t *testing.T, what string, got api.Arr, e api.Errno, want api.Arr, wantErr api.Errno) {
	t.Helper()
	if wantErr != api.OK {
		want = api.Arr{}
	}
	if e != wantErr || !alike(got, want) {
		t.Errorf("%s: %v, %v; want %v, %v", what, got, e, want, wantErr)
	}
}

// TestIs: 4.2: just those from Add to Ge.
func TestIs(t *testing.T) {
	for _, op := range anyOps() {
		if got, want := atomic.Is(op), slices.Contains(twos(), op); got != want {
			t.Errorf("Is(%d): %v", op, got)
		}
	}
}

// TestCellNumbers: 4.2 of numbers, against exact ones.
func TestCellNumbers(t *testing.T) {
	for _, op := range twos() {
		for _, a := range edges() {
			for _, b := range edges() {
				want, e := wantTwo(op, a, b)
				expectCell(t, op, number(a), number(b), number(want), e)
			}
		}
	}
}

// TestCellWritten: 4.2, with the answers written out.
func TestCellWritten(t *testing.T) {
	for _, c := range []struct {
		op         int
		a, b, want int64
		err        api.Errno
	}{
		{api.Add, 2, 3, 5, api.OK}, {api.Add, most, 1, 0, api.ErrOverflow}, {api.Add, least, most, -1, api.OK}, {api.Add, least, -1, 0, api.ErrOverflow},
		{api.Sub, 2, 3, -1, api.OK}, {api.Sub, 0, least, 0, api.ErrOverflow}, {api.Sub, -1, least, most, api.OK}, {api.Sub, least, 1, 0, api.ErrOverflow},
		{api.Mul, -4, 3, -12, api.OK}, {api.Mul, least, -1, 0, api.ErrOverflow}, {api.Mul, -1, least, 0, api.ErrOverflow}, {api.Mul, least, 1, least, api.OK}, {api.Mul, 1 << 32, 1 << 32, 0, api.ErrOverflow},
		{api.Min, 2, 3, 2, api.OK}, {api.Min, 3, 2, 2, api.OK}, {api.Min, least, most, least, api.OK}, {api.Max, 2, 3, 3, api.OK}, {api.Max, -2, -3, -2, api.OK}, {api.Max, least, most, most, api.OK},
		{api.Res, 3, -1, 2, api.OK}, {api.Res, -3, 1, -2, api.OK}, {api.Res, 3, 7, 1, api.OK}, {api.Res, 7, 3, 3, api.OK}, {api.Res, 0, 7, 7, api.OK}, {api.Res, 0, least, least, api.OK}, {api.Res, -1, least, 0, api.OK}, {api.Res, least, -1, -1, api.OK}, {api.Res, least, most, -1, api.OK},
		{api.Eq, 5, 5, 1, api.OK}, {api.Eq, 5, 6, 0, api.OK}, {api.Eq, 6, 5, 0, api.OK}, {api.Ne, 5, 5, 0, api.OK}, {api.Ne, 5, 6, 1, api.OK}, {api.Ne, 6, 5, 1, api.OK},
		{api.Lt, 5, 6, 1, api.OK}, {api.Lt, 5, 5, 0, api.OK}, {api.Lt, 6, 5, 0, api.OK}, {api.Gt, 5, 6, 0, api.OK}, {api.Gt, 5, 5, 0, api.OK}, {api.Gt, 6, 5, 1, api.OK},
		{api.Le, 5, 6, 1, api.OK}, {api.Le, 5, 5, 1, api.OK}, {api.Le, 6, 5, 0, api.OK}, {api.Ge, 5, 6, 0, api.OK}, {api.Ge, 5, 5, 1, api.OK}, {api.Ge, 6, 5, 1, api.OK},
		{api.Lt, least, most, 1, api.OK}, {api.Gt, least, most, 0, api.OK},
	} {
		expectCell(t, c.op, number(c.a), number(c.b), number(c.want), c.err)
	}
}

// TestCellKinds: 4.2, of cells of all kinds, by all numbers.
func TestCellKinds(t *testing.T) {
	for _, op := range anyOps() {
		for _, a := range kinds() {
			for _, b := range kinds() {
				want, e := wantCell(op, a, b)
				expectCell(t, op, a, b, want, e)
			}
		}
	}
}

// TestEqual: 4.2 of Eq and Ne, written out.
func TestEqual(t *testing.T) {
	for _, c := range []struct {
		a, b api.Cell
		eq   int64
		err  api.Errno
	}{
		{number(97), number(97), 1, api.OK}, {number(97), number(98), 0, api.OK},
		{sign(97), sign(97), 1, api.OK}, {sign(97), sign(98), 0, api.OK},
		{number(97), sign(97), 0, api.OK}, {sign(97), number(97), 0, api.OK},
		{box(nums(1)), box(nums(1)), 0, api.ErrDomain}, {box(nums(1)), number(0), 0, api.ErrDomain}, {sign(0), box(nums(1)), 0, api.ErrDomain}, {number(0), box(nums(1)), 0, api.ErrDomain},
		{api.Cell{Kind: 3}, api.Cell{Kind: 3}, 1, api.OK}, {api.Cell{Kind: 3}, api.Cell{Kind: 4}, 0, api.OK}, {api.Cell{Kind: 3}, api.Cell{Kind: api.CBox}, 0, api.ErrDomain},
	} {
		ne := int64(0)
		if c.err == api.OK {
			ne = 1 - c.eq
		}
		expectCell(t, api.Eq, c.a, c.b, number(c.eq), c.err)
		expectCell(t, api.Ne, c.a, c.b, number(ne), c.err)
	}
}

// TestCellNone: 4.2: a number that names none is told ahead of what the cells are.
func TestCellNone(t *testing.T) {
	for _, op := range []int{math.MinInt, -1, 0, api.Neg, api.Recip, api.Add - 1, api.Ge + 1, api.Reshape, api.Div, api.Div + 1, math.MaxInt} {
		for _, c := range kinds() {
			expectCell(t, op, c, c, api.Cell{}, api.ErrArg)
			expectCell(t, op, number(1), c, api.Cell{}, api.ErrArg)
		}
	}
}

// TestMoNumbers: 4.1 of each function, of an atom, a list, and a list behind a right cell, against exact numbers.
func TestMoNumbers(t *testing.T) {
	for _, op := range ones() {
		for _, n := range edges() {
			want, e := wantOne(op, n)
			got, err := atomic.Mo(op, arr.Atom(n))
			expect(t, "Mo of an atom", got, err, arr.Atom(want), e)
			got, err = atomic.Mo(op, nums(n))
			expect(t, "Mo of a list", got, err, nums(want), e)
			zero, _ := wantOne(op, 0)
			got, err = atomic.Mo(op, of([]int{1, 3, 1}, 0, 0, n))
			expect(t, "Mo behind others", got, err, of([]int{1, 3, 1}, zero, zero, want), e)
		}
	}
}

// oneCase is an argument of a function of one, and what comes of it.
type oneCase struct {
	op      int
	a, want api.Arr
	err     api.Errno
}

func oneCases() []oneCase {
	none := of([]int{0, 3})
	return []oneCase{
		{api.Neg, nums(1, -2, 0, most), nums(-1, 2, 0, -most), api.OK},
		{api.Sgn, nums(5, -2, 0, most, least), nums(1, -1, 0, 1, -1), api.OK},
		{api.Abs, of([]int{2, 2}, 5, -2, 0, -most), of([]int{2, 2}, 5, 2, 0, most), api.OK},
		{api.Not, nums(0, 1, 1, 0), nums(1, 0, 0, 1), api.OK},
		{api.Not, arr.Atom(2), api.Arr{}, api.ErrDomain}, {api.Not, arr.Atom(-1), api.Arr{}, api.ErrDomain}, {api.Not, nums(0, 1, 7), api.Arr{}, api.ErrDomain}, {api.Not, arr.Atom(least), api.Arr{}, api.ErrDomain},
		{api.Neg, arr.Atom(least), api.Arr{}, api.ErrOverflow}, {api.Abs, nums(1, least), api.Arr{}, api.ErrOverflow},
		// Of what is empty nothing is asked, but the function must be one.
		{api.Neg, nums(), nums(), api.OK}, {api.Not, none, none, api.OK}, {api.Recip, none, api.Arr{}, api.ErrNonce}, {0, none, api.Arr{}, api.ErrArg}, {api.Add, none, api.Arr{}, api.ErrArg},
		// Of cells the first error is told.
		{api.Neg, list(number(least), sign(97)), api.Arr{}, api.ErrOverflow}, {api.Neg, list(sign(97), number(least)), api.Arr{}, api.ErrDomain},
		{api.Abs, list(number(1), number(least), box(none)), api.Arr{}, api.ErrOverflow}, {api.Abs, list(number(1), box(none), number(least)), api.Arr{}, api.ErrDomain},
	}
}

// TestMo: 4.1, written out.
func TestMo(t *testing.T) {
	for _, c := range oneCases() {
		got, e := atomic.Mo(c.op, c.a)
		expect(t, "Mo", got, e, c.want, c.err)
	}
}

// TestMoNoNumber: 4.1: a sign, or a box, in the first place, and behind cells that are right.
func TestMoNoNumber(t *testing.T) {
	for _, op := range ones() {
		for _, c := range []api.Cell{sign(0), sign(1), sign(97), box(nums()), box(arr.Atom(0))} {
			for _, a := range []api.Arr{atom(c), list(c), list(c, number(0)), list(number(0), number(1), c), list(number(1), c, number(0)), {Shape: []int{1, 1, 2}, Cells: []api.Cell{number(0), c}}} {
				got, e := atomic.Mo(op, a)
				expect(t, "Mo of no number", got, e, api.Arr{}, api.ErrDomain)
			}
		}
	}
}

// wrongArray may not be.
type wrongArray struct {
	a   api.Arr
	err api.Errno
}

func wrongArrays() []wrongArray {
	deep := arr.Atom(1)
	for range 9 {
		deep = atom(box(deep))
	}
	return []wrongArray{
		{api.Arr{}, api.ErrArg},
		{of(nil, 1, 2), api.ErrArg},
		{of([]int{2}, 1), api.ErrArg},
		{of([]int{-1}), api.ErrArg},
		{of([]int{1, 1, 1, 1, 1, 1, 1, 1, 1}, 1), api.ErrRank},
		{of([]int{16385}), api.ErrCells},
		{of([]int{16385, 0}), api.ErrCells},
		{deep, api.ErrDeep},
		{atom(api.Cell{Kind: 3}), api.ErrArg},
		{list(number(1), api.Cell{Kind: -1}), api.ErrArg},
		{list(sign(97), sign(0xd800)), api.ErrArg},
		{list(number(1), api.Cell{Kind: api.CBox}), api.ErrArg},
		{list(api.Cell{Kind: api.CInt, Box: []api.Arr{arr.Atom(1)}}), api.ErrArg},
		{list(box(of([]int{16385}))), api.ErrCells},
	}
}

// TestMoOrder: 4.1: the array's error ahead of all, then Recip's, then that of a number that names none, then the cells'.
func TestMoOrder(t *testing.T) {
	for _, op := range anyOps() {
		for _, w := range wrongArrays() {
			got, e := atomic.Mo(op, w.a)
			expect(t, "Mo of what may not be", got, e, api.Arr{}, w.err)
		}
		if slices.Contains(ones(), op) {
			continue
		}
		want := api.ErrArg
		if op == api.Recip {
			want = api.ErrNonce
		}
		for _, a := range []api.Arr{arr.Atom(0), nums(), nums(1, 2), atom(sign(97)), list(box(nums(1)), number(least))} {
			got, e := atomic.Mo(op, a)
			expect(t, "Mo by a number that names none", got, e, api.Arr{}, want)
		}
	}
}

// agreed is two shapes and what comes of them.
type agreed struct {
	a, b, want []int
	err        api.Errno
}

func agreements() []agreed {
	nine := []int{1, 2, 3, 4, 5, 6, 7, 8, 9}
	return []agreed{
		{nil, nil, nil, api.OK}, {nil, []int{}, nil, api.OK}, {[]int{}, []int{}, nil, api.OK},
		{nil, []int{3}, []int{3}, api.OK}, {[]int{3}, nil, []int{3}, api.OK}, {[]int{}, []int{2, 3}, []int{2, 3}, api.OK}, {[]int{2, 3}, []int{}, []int{2, 3}, api.OK},
		{nil, []int{0}, []int{0}, api.OK}, {[]int{0, 5}, nil, []int{0, 5}, api.OK},
		// Beside no axis any shape is right, those that may not be too.
		{nil, []int{-1, 1 << 40}, []int{-1, 1 << 40}, api.OK}, {nine, nil, nine, api.OK}, {nil, nine, nine, api.OK},
		{[]int{3}, []int{3}, []int{3}, api.OK}, {[]int{0}, []int{0}, []int{0}, api.OK}, {[]int{2, 3}, []int{2, 3}, []int{2, 3}, api.OK}, {nine, nine, nine, api.OK}, {[]int{-1}, []int{-1}, []int{-1}, api.OK},
		{[]int{3}, []int{2}, nil, api.ErrLength}, {[]int{0}, []int{1}, nil, api.ErrLength}, {[]int{1}, []int{0}, nil, api.ErrLength}, {[]int{2, 3}, []int{3, 2}, nil, api.ErrLength}, {[]int{2, 3}, []int{2, 4}, nil, api.ErrLength}, {[]int{2, 3}, []int{1, 3}, nil, api.ErrLength}, {[]int{1, 2, 3}, []int{1, 2, 0}, nil, api.ErrLength}, {[]int{0, 3}, []int{3, 0}, nil, api.ErrLength},
		// A list of one cell is no atom.
		{[]int{1}, []int{3}, nil, api.ErrLength}, {[]int{3}, []int{1}, nil, api.ErrLength}, {[]int{1}, []int{1, 1}, nil, api.ErrRank},
		// No prefixes agree, and how many axes there are is ahead of how long they are.
		{[]int{2}, []int{2, 3}, nil, api.ErrRank}, {[]int{2, 3}, []int{2}, nil, api.ErrRank}, {[]int{3}, []int{2, 3}, nil, api.ErrRank}, {[]int{5, 6, 7}, []int{2, 3}, nil, api.ErrRank}, {[]int{0}, []int{0, 0}, nil, api.ErrRank}, {nine, nine[:8], nil, api.ErrRank},
	}
}

// TestAgree: 4.3, and R3 of shapes.
func TestAgree(t *testing.T) {
	for _, c := range agreements() {
		a, b := slices.Clone(c.a), slices.Clone(c.b)
		got, e := atomic.Agree(a, b)
		if e != c.err || !slices.Equal(got, c.want) {
			t.Errorf("Agree(%v, %v): %v, %v; want %v, %v", c.a, c.b, got, e, c.want, c.err)
		}
		second, _ := atomic.Agree(a, b)
		spoilShape(got)
		if !slices.Equal(a, c.a) || !slices.Equal(b, c.b) || !slices.Equal(second, c.want) {
			t.Errorf("Agree(%v, %v) shares memory", c.a, c.b)
		}
	}
}

// TestAgreeBehind: R3: what lies behind a shape's end is neither read nor handed out.
func TestAgreeBehind(t *testing.T) {
	a, b := []int{2, 3, 4}, []int{2, 3, 5}
	for _, shapes := range [][2][]int{{a[:2], b[:2]}, {a[:2], b[:0]}, {a[:0], b[:2]}} {
		got, e := atomic.Agree(shapes[0], shapes[1])
		if e != api.OK || !slices.Equal(got, []int{2, 3}) {
			t.Errorf("Agree: %v, %v", got, e)
		}
		spoilShape(got)
	}
	if !slices.Equal(a, []int{2, 3, 4}) || !slices.Equal(b, []int{2, 3, 5}) {
		t.Errorf("changed: %v, %v", a, b)
	}
}

// twoCase is two arguments of a function, and what comes of them.
type twoCase struct {
	op         int
	a, b, want api.Arr
	err        api.Errno
}

func twoCases() []twoCase {
	no := api.Arr{}
	table := of([]int{2, 3}, 1, 2, 3, 4, 5, 6)
	text := arr.Text([]int64{97, 98, 97})
	return []twoCase{
		{api.Sub, nums(1, 2, 3), nums(3, 5, 7), nums(-2, -3, -4), api.OK},
		{api.Sub, arr.Atom(10), arr.Atom(4), arr.Atom(6), api.OK},
		{api.Sub, arr.Atom(10), nums(1, 2, 3), nums(9, 8, 7), api.OK}, {api.Sub, nums(1, 2, 3), arr.Atom(10), nums(-9, -8, -7), api.OK},
		{api.Res, nums(3, -3, 0), nums(-1, 1, 7), nums(2, -2, 7), api.OK}, {api.Res, arr.Atom(3), nums(-1, 0, 4), nums(2, 0, 1), api.OK},
		{api.Mul, table, table, of([]int{2, 3}, 1, 4, 9, 16, 25, 36), api.OK}, {api.Mul, arr.Atom(-1), table, of([]int{2, 3}, -1, -2, -3, -4, -5, -6), api.OK},
		{api.Lt, nums(1, 2, 3), arr.Atom(2), nums(1, 0, 0), api.OK}, {api.Lt, arr.Atom(2), nums(1, 2, 3), nums(0, 0, 1), api.OK},
		{api.Eq, text, atom(sign(97)), nums(1, 0, 1), api.OK}, {api.Ne, atom(sign(97)), text, nums(0, 1, 0), api.OK}, {api.Eq, text, nums(97, 98, 97), nums(0, 0, 0), api.OK}, {api.Ne, text, arr.Atom(97), nums(1, 1, 1), api.OK},
		// A list of one cell is no atom.
		{api.Add, nums(1), nums(1, 2), no, api.ErrLength}, {api.Add, table, nums(1), no, api.ErrRank}, {api.Add, nums(1), arr.Atom(2), nums(3), api.OK},
		{api.Add, table, of([]int{3, 2}, 1, 2, 3, 4, 5, 6), no, api.ErrLength}, {api.Add, table, nums(1, 2), no, api.ErrRank}, {api.Add, nums(1, 2, 3), table, no, api.ErrRank},
		// Empty ones: of an atom beside them nothing is asked.
		{api.Add, nums(), nums(), nums(), api.OK}, {api.Add, nums(), arr.Atom(1), nums(), api.OK}, {api.Add, atom(sign(97)), of([]int{2, 0}), of([]int{2, 0}), api.OK}, {api.Eq, nums(), atom(box(nums())), nums(), api.OK}, {api.Add, nums(), nums(1), no, api.ErrLength}, {api.Add, nums(), of([]int{0, 0}), no, api.ErrRank}, {api.Add, of([]int{0, 2}), of([]int{2, 0}), no, api.ErrLength},
		// Of cells the first error is told.
		{api.Add, list(number(most), sign(97)), arr.Atom(1), no, api.ErrOverflow}, {api.Add, list(sign(97), number(most)), arr.Atom(1), no, api.ErrDomain}, {api.Add, nums(1, most, 3), list(number(1), number(1), box(nums())), no, api.ErrOverflow}, {api.Add, nums(1, most), list(box(nums()), number(1)), no, api.ErrDomain},
		// The shapes' errors are ahead of the cells'.
		{api.Add, list(sign(97), sign(98)), nums(1, 2, 3), no, api.ErrLength}, {api.Mul, list(box(nums()), number(most)), table, no, api.ErrRank},
	}
}

// TestDy: 4.4, written out.
func TestDy(t *testing.T) {
	for _, c := range twoCases() {
		got, e := atomic.Dy(c.op, c.a, c.b)
		expect(t, "Dy", got, e, c.want, c.err)
	}
}

// TestDyNumbers: 4.4 of each function, of atoms and behind right cells, against exact numbers.
func TestDyNumbers(t *testing.T) {
	for _, op := range twos() {
		zero, _ := wantTwo(op, 0, 0)
		for _, a := range edges() {
			for _, b := range edges() {
				want, e := wantTwo(op, a, b)
				got, err := atomic.Dy(op, arr.Atom(a), arr.Atom(b))
				expect(t, "Dy of atoms", got, err, arr.Atom(want), e)
				got, err = atomic.Dy(op, nums(0, a), nums(0, b))
				expect(t, "Dy of lists", got, err, nums(zero, want), e)
			}
		}
	}
}

// TestDyKinds: 4.4, of cells of all kinds that may be, in the first place and behind right ones, on either side.
func TestDyKinds(t *testing.T) {
	for _, op := range twos() {
		for _, a := range kinds() {
			for _, b := range kinds() {
				if arr.Check(atom(a)) != api.OK || arr.Check(atom(b)) != api.OK {
					continue
				}
				want, e := wantCell(op, a, b)
				zero, _ := wantCell(op, number(0), number(0))
				got, err := atomic.Dy(op, list(a), list(b))
				expect(t, "Dy", got, err, list(want), e)
				got, err = atomic.Dy(op, list(number(0), a), list(number(0), b))
				expect(t, "Dy behind right cells", got, err, list(zero, want), e)
			}
		}
	}
}

// TestDyOrder: 4.4: a's error, b's, Div's, that of a number that names none, the shapes'.
func TestDyOrder(t *testing.T) {
	for _, op := range anyOps() {
		for _, a := range wrongArrays() {
			got, e := atomic.Dy(op, a.a, nums(1, 2))
			expect(t, "Dy of a wrong a", got, e, api.Arr{}, a.err)
			got, e = atomic.Dy(op, list(box(nums())), a.a)
			expect(t, "Dy of a wrong b", got, e, api.Arr{}, a.err)
			for _, b := range wrongArrays() {
				got, e := atomic.Dy(op, a.a, b.a)
				expect(t, "Dy of both wrong", got, e, api.Arr{}, a.err)
			}
		}
		if atomic.Is(op) {
			continue
		}
		want := api.ErrArg
		if op == api.Div {
			want = api.ErrNonce
		}
		for _, b := range []api.Arr{arr.Atom(0), nums(), nums(1, 2), nums(1, 2, 3), of([]int{1, 2}, 1, 2), list(sign(97), box(nums()))} {
			for _, a := range []api.Arr{arr.Atom(0), nums(1, 2), list(box(nums()), sign(97))} {
				got, e := atomic.Dy(op, a, b)
				expect(t, "Dy by a number that names none", got, e, api.Arr{}, want)
			}
		}
	}
}

// shapes are those of many ranks, empty ones and full ones among them.
func shapes() [][]int {
	return [][]int{nil, {0}, {1}, {2}, {7}, {16384}, {1, 1}, {2, 3}, {0, 3}, {3, 0}, {2, 3, 4}, {128, 128}, {2, 2, 2, 2, 2, 2, 2, 2}, {1, 1, 1, 1, 1, 1, 1, 1}, {16384, 0, 16384}}
}

// randomCells are of few kinds and numbers, so that some of them are the same.
func randomCells(r *rand.Rand, shape []int, wrong int) api.Arr {
	a := allOver(shape, number(0))
	for i := range a.Cells {
		switch n := int64(r.Intn(7) - 3); {
		case r.Intn(1000) < wrong:
			a.Cells[i] = sign(n + 3)
		case r.Intn(1000) < wrong:
			a.Cells[i] = box(nums(n))
		case r.Intn(1000) < wrong:
			a.Cells[i] = number(least)
		default:
			a.Cells[i] = number(n)
		}
	}
	return a
}

// TestShapes: 4.1 and 4.4: each cell comes of those at its place, and the first error is told.
func TestShapes(t *testing.T) {
	r := rand.New(rand.NewSource(44))
	for _, shape := range shapes() {
		for _, wrong := range []int{0, 0, 1, 200} {
			a, b := randomCells(r, shape, wrong), randomCells(r, shape, wrong)
			for _, op := range twos() {
				want, wantErr := zipped(shape, func(i int) (api.Cell, api.Errno) { return wantCell(op, a.Cells[i], b.Cells[i]) })
				got, e := atomic.Dy(op, a, b)
				expect(t, "Dy", got, e, want, wantErr)
			}
			for _, op := range ones() {
				want, wantErr := zipped(shape, func(i int) (api.Cell, api.Errno) {
					if a.Cells[i].Kind != api.CInt {
						return api.Cell{}, api.ErrDomain
					}
					n, e := wantOne(op, a.Cells[i].N)
					return number(n), e
				})
				got, e := atomic.Mo(op, a)
				expect(t, "Mo", got, e, want, wantErr)
			}
		}
	}
}

// zipped is an array whose cells come of their places.
func zipped(shape []int, of func(i int) (api.Cell, api.Errno)) (api.Arr, api.Errno) {
	a := allOver(shape, number(0))
	for i := range a.Cells {
		c, e := of(i)
		if e != api.OK {
			return api.Arr{}, e
		}
		a.Cells[i] = c
	}
	return a, api.OK
}

// TestAtomAllOver: 4.5: an atom beside an array, on either side, against one that has its cell all over.
func TestAtomAllOver(t *testing.T) {
	r := rand.New(rand.NewSource(45))
	cells := []api.Cell{number(0), number(1), number(-2), number(most), number(least), sign(97), sign(0), box(nums(1)), box(atom(sign(97)))}
	for _, shape := range shapes() {
		for _, wrong := range []int{0, 100} {
			a := randomCells(r, shape, wrong)
			for _, c := range cells {
				for _, op := range append(twos(), api.Div, 0, api.Take) {
					want, wantErr := atomic.Dy(op, a, allOver(shape, c))
					got, e := atomic.Dy(op, a, atom(c))
					expect(t, "Dy with an atom as b", got, e, want, wantErr)
					want, wantErr = atomic.Dy(op, allOver(shape, c), a)
					got, e = atomic.Dy(op, atom(c), a)
					expect(t, "Dy with an atom as a", got, e, want, wantErr)
				}
			}
		}
	}
}

// spoilShape changes all that a shape holds, and what lies behind it.
func spoilShape(shape []int) {
	shape = shape[:cap(shape)]
	for i := range shape {
		shape[i] = 77
	}
}

// spoil changes all that an array holds, and what lies behind its lists.
func spoil(a api.Arr) {
	cells := a.Cells[:cap(a.Cells)]
	for i := range cells {
		cells[i] = api.Cell{Kind: 77, N: 77}
	}
	spoilShape(a.Shape)
}

// TestStays: R3 and P7: what came in stays as it was, an answer shares nothing with it, nor with another answer, and is alike each time.
func TestStays(t *testing.T) {
	for _, c := range twoCases() {
		a, b := arr.Copy(c.a), arr.Copy(c.b)
		got, e := atomic.Dy(c.op, a, b)
		second, err := atomic.Dy(c.op, a, b)
		if !alike(a, c.a) || !alike(b, c.b) || !alike(got, second) || e != err {
			t.Errorf("Dy(%d, %v, %v) changed them", c.op, c.a, c.b)
		}
		spoil(got)
		if !alike(a, c.a) || !alike(b, c.b) || !alike(second, c.want) {
			t.Errorf("Dy(%d, %v, %v): what it answers is shared", c.op, c.a, c.b)
		}
		spoil(a)
		spoil(b)
		if !alike(second, c.want) {
			t.Errorf("Dy(%d, %v, %v): it answers what came in", c.op, c.a, c.b)
		}
	}
	for _, c := range oneCases() {
		a := arr.Copy(c.a)
		got, e := atomic.Mo(c.op, a)
		second, err := atomic.Mo(c.op, a)
		if !alike(a, c.a) || !alike(got, second) || e != err {
			t.Errorf("Mo(%d, %v) changed it", c.op, c.a)
		}
		spoil(got)
		if !alike(a, c.a) || !alike(second, c.want) {
			t.Errorf("Mo(%d, %v): what it answers is shared", c.op, c.a)
		}
		spoil(a)
		if !alike(second, c.want) {
			t.Errorf("Mo(%d, %v): it answers what came in", c.op, c.a)
		}
	}
}

// TestOneTwice: R3: one array as both arguments stays, too.
func TestOneTwice(t *testing.T) {
	a := of([]int{2, 2}, 1, 2, 3, 4)
	got, e := atomic.Dy(api.Mul, a, a)
	expect(t, "Dy of one array twice", got, e, of([]int{2, 2}, 1, 4, 9, 16), api.OK)
	expect(t, "that array", a, api.OK, of([]int{2, 2}, 1, 2, 3, 4), api.OK)
}

// TestBehind: R3: what lies behind the lists' lengths is neither read nor handed out.
func TestBehind(t *testing.T) {
	shape := []int{2, 3, 4}
	cells := []api.Cell{number(1), number(2), sign(97), number(least)}
	a := api.Arr{Shape: shape[:1], Cells: cells[:2]}
	got, e := atomic.Mo(api.Neg, a)
	expect(t, "Mo", got, e, nums(-1, -2), api.OK)
	spoil(got)
	got, e = atomic.Dy(api.Add, a, api.Arr{Shape: shape[:0], Cells: cells[:1]})
	expect(t, "Dy", got, e, nums(2, 3), api.OK)
	spoil(got)
	if !slices.Equal(shape, []int{2, 3, 4}) || !slices.EqualFunc(cells, []api.Cell{number(1), number(2), sign(97), number(least)}, alikeCells) {
		t.Errorf("changed: %v, %v", shape, cells)
	}
}

// TestCellStays: R3: cells stay as they were, with what is in their boxes.
func TestCellStays(t *testing.T) {
	for _, op := range anyOps() {
		for i, c := range kinds() {
			atomic.Cell(op, c, c)
			if !alikeCells(c, kinds()[i]) {
				t.Errorf("Cell(%d, ..) changed %v", op, c)
			}
		}
	}
}

// TestExamples: the chapter's.
func TestExamples(t *testing.T) {
	a := nums(1, 2, 3)
	got, e := atomic.Dy(api.Add, a, arr.Atom(5))
	expect(t, "1 2 3 and 5", got, e, nums(6, 7, 8), api.OK)
	got, e = atomic.Dy(api.Add, a, nums(1, 2))
	expect(t, "1 2 3 and 1 2", got, e, api.Arr{}, api.ErrLength)
	got, e = atomic.Dy(api.Add, a, of([]int{1, 3}, 1, 2, 3))
	expect(t, "1 2 3 and two axes", got, e, api.Arr{}, api.ErrRank)
	got, e = atomic.Dy(api.Div, a, a)
	expect(t, "Div", got, e, api.Arr{}, api.ErrNonce)
	got, e = atomic.Mo(api.Recip, a)
	expect(t, "Recip", got, e, api.Arr{}, api.ErrNonce)
}
