package fold_test

import (
	"math"
	"math/big"
	"math/rand"
	"slices"
	"testing"

	"triglyph/api"
	"triglyph/arr"
	"triglyph/atomic"
	"triglyph/fold"
)

const (
	least = math.MinInt64
	most  = math.MaxInt64
	full  = api.MaxCells
)

// number, sign and box are cells that may be.
func number(n int64) api.Cell { return api.Cell{Kind: api.CInt, N: n} }
func sign(n int64) api.Cell   { return api.Cell{Kind: api.CChar, N: n} }
func box(a api.Arr) api.Cell  { return api.Cell{Kind: api.CBox, Box: []api.Arr{a}} }

// atom, list, with and of are arrays of cells.
func atom(c api.Cell) api.Arr                 { return api.Arr{Cells: []api.Cell{c}} }
func list(c ...api.Cell) api.Arr              { return api.Arr{Shape: []int{len(c)}, Cells: c} }
func with(shape []int, c ...api.Cell) api.Arr { return api.Arr{Shape: shape, Cells: c} }
func of(shape []int, l ...int64) api.Arr      { return with(shape, arr.Nums(l).Cells...) }
func nums(l ...int64) api.Arr                 { return arr.Nums(l) }
func text(s string) api.Arr {
	out := api.Arr{Shape: []int{len(s)}}
	for _, r := range s {
		out.Cells = append(out.Cells, sign(int64(r)))
	}
	return out
}
func boxes(many int, within api.Arr) api.Arr {
	for range many {
		within = atom(box(within))
	}
	return within
}

// boxed, lettered and small are cells of a kind each.
func boxed() api.Cell    { return box(list(number(1), box(text("ab")))) }
func lettered() api.Cell { return sign(97) }
func small() api.Cell    { return number(-7) }

// counted is the numbers from 0 on in a shape; allOver one number all over.
func counted(shape ...int) api.Arr {
	size, _ := arr.Size(shape)
	out := api.Arr{Shape: shape}
	for i := range size {
		out.Cells = append(out.Cells, number(int64(i)))
	}
	return out
}

func allOver(n int64, shape ...int) api.Arr {
	out := counted(shape...)
	for i := range out.Cells {
		out.Cells[i].N = n
	}
	return out
}

// plain and turned are a function as it stands, and with its arguments exchanged.
func plain(op int) fold.F  { return fold.F{Op: op} }
func turned(op int) fold.F { return fold.F{Op: op, Turned: true} }

// ops are the functions that go cell by cell; others those that are neither added nor multiplied; functions all of them, turned and not.
func ops() []int    { return append([]int{api.Add, api.Mul}, others()...) }
func others() []int { return append([]int{api.Sub, api.Min, api.Max, api.Res}, truths()...) }
func truths() []int { return []int{api.Eq, api.Ne, api.Lt, api.Gt, api.Le, api.Ge} }
func functions() []fold.F {
	l := []fold.F{}
	for _, op := range ops() {
		l = append(l, plain(op), turned(op))
	}
	return l
}

// noOps are numbers that name no function that goes cell by cell.
func noOps() []int {
	l := []int{math.MinInt, math.MinInt + api.Add, math.MinInt32, -1 << 16, 1 << 16, 1<<32 + api.Add, 1<<32 + api.Ge, math.MaxInt32, math.MaxInt - api.Add, math.MaxInt}
	for op := -70; op <= 130; op++ {
		if op < api.Add || op > api.Ge {
			l = append(l, op)
		}
	}
	return l
}

// alike: the same fields all the way down; nil and nothing are alike.
func alike(a, b api.Arr) bool {
	return slices.Equal(a.Shape, b.Shape) && slices.EqualFunc(a.Cells, b.Cells, alikeCells)
}

func alikeCells(a, b api.Cell) bool {
	return a.Kind == b.Kind && a.N == b.N && slices.EqualFunc(a.Box, b.Box, alike)
}

// expect holds an answer against the one asked for: with an error nothing else. What is answered may be.
func expect(t *testing.T, what string, got api.Arr, e api.Errno, want api.Arr, wantErr api.Errno) {
	t.Helper()
	if wantErr != api.OK {
		want = api.Arr{}
	}
	if e != wantErr || !alike(got, want) {
		t.Errorf("%s: %v, %v; want %v, %v", what, short(got), e, short(want), wantErr)
	}
	if check := arr.Check(got); e == api.OK && check != api.OK {
		t.Errorf("%s: %v may not be: %v", what, short(got), check)
	}
}

// short is what of an array is worth telling.
func short(a api.Arr) api.Arr {
	a.Cells = a.Cells[:min(len(a.Cells), 30)]
	return a
}

// call is Red or Scan.
type call = func(f fold.F, a api.Arr, last bool) (api.Arr, api.Errno)

// both is Red and Scan.
func both() []call { return []call{fold.Red, fold.Scan} }

// oneCase is an array that is folded along its first axis (or the last), and what comes of it.
type oneCase struct {
	by      call
	f       fold.F
	a       api.Arr
	last    bool
	want    api.Arr
	wantErr api.Errno
}

// twoCase is two arrays each with each, and what comes of them.
type twoCase struct {
	f          fold.F
	a, b, want api.Arr
	wantErr    api.Errno
}

func expectOnes(t *testing.T, cases []oneCase) {
	t.Helper()
	for i, c := range cases {
		got, e := c.by(c.f, c.a, c.last)
		if e != c.wantErr || !alike(got, c.want) {
			t.Errorf("%d: by %v, of %v, last %v", i, c.f, short(c.a), c.last)
		}
		expect(t, "folded", got, e, c.want, c.wantErr)
	}
}

func expectTwos(t *testing.T, cases []twoCase) {
	t.Helper()
	for i, c := range cases {
		got, e := fold.Outer(c.f, c.a, c.b)
		if e != c.wantErr || !alike(got, c.want) {
			t.Errorf("%d: by %v, of %v and %v", i, c.f, short(c.a), short(c.b))
		}
		expect(t, "each with each", got, e, c.want, c.wantErr)
	}
}

// lineCase is a line of cells, what it is folded, and folded as far as each.
type lineCase struct {
	f       fold.F
	line    api.Arr
	red     api.Arr
	redErr  api.Errno
	scan    api.Arr
	scanErr api.Errno
}

// right and failing are line cases that come to something, and to errors.
func right(f fold.F, line api.Arr, red int64, scan ...int64) lineCase {
	return lineCase{f, line, arr.Atom(red), api.OK, nums(scan...), api.OK}
}

func failing(f fold.F, line api.Arr, red, scan api.Errno) lineCase {
	return lineCase{f: f, line: line, redErr: red, scanErr: scan}
}

// wholeOnly is a line of numbers that comes to something, and as far as each does not fit.
func wholeOnly(f fold.F, red int64, line ...int64) lineCase {
	return lineCase{f: f, line: nums(line...), red: arr.Atom(red), scanErr: api.ErrOverflow}
}

// expectLines: each line is folded as it says: as a list, along the one axis that it has, as a row and as a column.
func expectLines(t *testing.T, cases []lineCase) {
	t.Helper()
	for _, c := range cases {
		long := c.line.Shape[0]
		row, column := with([]int{1, long}, c.line.Cells...), with([]int{long, 1}, c.line.Cells...)
		scanRow, scanColumn := with([]int{1, long}, c.scan.Cells...), with([]int{long, 1}, c.scan.Cells...)
		lone := with([]int{1}, c.red.Cells...)
		expectOnes(t, []oneCase{
			{fold.Red, c.f, c.line, false, c.red, c.redErr}, {fold.Red, c.f, c.line, true, c.red, c.redErr},
			{fold.Scan, c.f, c.line, false, c.scan, c.scanErr}, {fold.Scan, c.f, c.line, true, c.scan, c.scanErr},
		})
		if c.redErr == api.OK {
			expectOnes(t, []oneCase{{fold.Red, c.f, row, true, lone, api.OK}, {fold.Red, c.f, column, false, lone, api.OK}})
		}
		if c.scanErr == api.OK {
			expectOnes(t, []oneCase{{fold.Scan, c.f, row, true, scanRow, api.OK}, {fold.Scan, c.f, column, false, scanColumn, api.OK}})
		}
	}
}

// TestNoCells: 8.1 of a line of no cells; folded as far as each, there is none.
func TestNoCells(t *testing.T) {
	for _, f := range functions() {
		want, e := api.Arr{}, api.ErrDomain
		switch f.Op {
		case api.Add, api.Sub:
			want, e = arr.Atom(0), api.OK
		case api.Mul:
			want, e = arr.Atom(1), api.OK
		}
		for _, last := range []bool{false, true} {
			for _, none := range []api.Arr{nums(), text(""), {Shape: []int{0}}} {
				expectOnes(t, []oneCase{{fold.Red, f, none, last, want, e}, {fold.Scan, f, none, last, nums(), api.OK}})
			}
		}
	}
}

// TestOneCell: 8.1 of a line of one cell: it, whatever it is and by whatever function.
func TestOneCell(t *testing.T) {
	for _, f := range functions() {
		for _, c := range []api.Cell{small(), number(0), number(least), number(most), lettered(), sign(0x10ffff), boxed(), boxes(8, nums(1)).Cells[0]} {
			expectLines(t, []lineCase{{f, list(c), atom(c), api.OK, list(c), api.OK}})
		}
	}
}

// TestTwoCells: 8.1 of a line of two cells of all kinds: atomic.Cell of them, turned with them exchanged.
func TestTwoCells(t *testing.T) {
	l := []api.Cell{number(0), number(1), number(97), small(), number(least), number(most), lettered(), sign(1), boxed(), box(nums())}
	for _, f := range functions() {
		for _, a := range l {
			for _, b := range l {
				c, e := atomic.Cell(f.Op, a, b)
				if f.Turned {
					c, e = atomic.Cell(f.Op, b, a)
				}
				if e != api.OK {
					expectLines(t, []lineCase{failing(f, list(a, b), e, e)})
					continue
				}
				expectLines(t, []lineCase{{f, list(a, b), atom(c), api.OK, list(a, c), api.OK}})
			}
		}
	}
}

// TestWhole: 8.1 of Add and Mul: only what comes of all must fit; as far as each, what comes of each.
func TestWhole(t *testing.T) {
	for _, at := range []func(op int) fold.F{plain, turned} {
		add, mul := at(api.Add), at(api.Mul)
		expectLines(t, []lineCase{
			right(add, nums(1, 2, 3), 6, 1, 3, 6), right(add, nums(5, -5), 0, 5, 0), right(add, nums(0, 0, 0), 0, 0, 0, 0),
			right(add, nums(most, -1, 1), most, most, most-1, most), right(add, nums(least, most, 1), 0, least, -1, 0),
			right(mul, nums(2, 3, 4), 24, 2, 6, 24), right(mul, nums(5, 0, 7), 0, 5, 0, 0), right(mul, nums(-1, -1, -1), -1, -1, 1, -1), right(mul, nums(0, least, -1), 0, 0, 0, 0),
			// From the right not all of the parts fit.
			right(add, nums(-1, most, 1), most, -1, most-1, most), right(add, nums(1, least, -1), least, 1, least+1, least),
			right(mul, nums(-1, 1<<62, 2), least, -1, -1<<62, least), right(mul, nums(-1, 1<<32, 1<<31), least, -1, -1<<32, least), right(mul, nums(0, most, most), 0, 0, 0, 0),
			// From the left not all of them fit.
			wholeOnly(add, most, most, 1, -1), wholeOnly(add, least, least, -1, 1), wholeOnly(add, most-1, most, most, least),
			wholeOnly(add, most-2, most, most, most, least, least), wholeOnly(add, 0, least, least, most, most, 2),
			wholeOnly(mul, 0, 1<<62, 4, 0), wholeOnly(mul, least, 1<<62, 2, -1), wholeOnly(mul, least, least, -1, -1), wholeOnly(mul, 0, most, most, most, 0),
			// The whole does not fit.
			failing(add, nums(1, most), api.ErrOverflow, api.ErrOverflow), failing(add, nums(0, -1, least), api.ErrOverflow, api.ErrOverflow), failing(add, nums(most, 0, 0, 1), api.ErrOverflow, api.ErrOverflow),
			failing(mul, nums(1, 1<<62, 2), api.ErrOverflow, api.ErrOverflow), failing(mul, nums(-1, least), api.ErrOverflow, api.ErrOverflow), failing(mul, nums(1<<32, 1<<32), api.ErrOverflow, api.ErrOverflow), failing(mul, nums(most, 2, 1), api.ErrOverflow, api.ErrOverflow),
		})
	}
}

// TestWholeKinds: 8.1 of Add and Mul: what is no number is told ahead of what does not fit; as far as each, the first that fails.
func TestWholeKinds(t *testing.T) {
	for _, op := range []int{api.Add, api.Mul} {
		for _, f := range []fold.F{plain(op), turned(op)} {
			for _, c := range []api.Cell{lettered(), sign(0), boxed(), box(arr.Atom(1))} {
				expectLines(t, []lineCase{
					failing(f, list(c, number(1), number(2)), api.ErrDomain, api.ErrDomain), failing(f, list(number(1), c, number(2)), api.ErrDomain, api.ErrDomain), failing(f, list(number(1), number(2), c), api.ErrDomain, api.ErrDomain),
					failing(f, list(c, c, c), api.ErrDomain, api.ErrDomain), failing(f, list(number(0), c), api.ErrDomain, api.ErrDomain), failing(f, list(c, number(0)), api.ErrDomain, api.ErrDomain),
					failing(f, list(c, number(most), number(most)), api.ErrDomain, api.ErrDomain), failing(f, list(number(most), c, number(most)), api.ErrDomain, api.ErrDomain),
					failing(f, list(number(most), number(most), c), api.ErrDomain, api.ErrOverflow), failing(f, list(number(most), number(most), number(0), c), api.ErrDomain, api.ErrOverflow),
				})
			}
		}
	}
}

// TestFromRight: 8.1 of other functions: the last two first, and so on ahead.
func TestFromRight(t *testing.T) {
	letters := with([]int{3}, lettered(), lettered(), lettered())
	expectLines(t, []lineCase{
		right(plain(api.Sub), nums(1, 2, 3), 2, 1, -1, 2), right(plain(api.Sub), nums(1, 2, 3, 4), -2, 1, -1, 2, -2), right(plain(api.Sub), nums(0, -1, least), -most, 0, 1, -most),
		right(turned(api.Sub), nums(1, 2, 3), 0, 1, 1, 0), right(turned(api.Sub), nums(1, 2, 3, 4), -2, 1, 1, 0, -2), right(turned(api.Sub), nums(-1, 1, most), most, -1, 2, most),
		right(plain(api.Min), nums(3, 1, 2), 1, 3, 1, 1), right(turned(api.Min), nums(0, most, least), least, 0, 0, least), right(plain(api.Max), nums(1, 3, 2), 3, 1, 3, 3), right(turned(api.Max), nums(least, -1, most), most, least, -1, most),
		right(plain(api.Res), nums(2, 4, 7), 1, 2, 0, 1), right(plain(api.Res), nums(2, 0, 9), 1, 2, 0, 1), right(plain(api.Res), nums(3, -1), 2, 3, 2), right(plain(api.Res), nums(-5, 3, -1), -3, -5, -2, -3),
		right(turned(api.Res), nums(7, 5, 13), 2, 7, 2, 2), right(turned(api.Res), nums(9, 4, 3), 0, 9, 1, 0), right(turned(api.Res), nums(9, 4, 2), 9, 9, 1, 9),
		right(plain(api.Eq), nums(5, 5, 1), 0, 5, 1, 0), right(plain(api.Eq), nums(1, 5, 5), 1, 1, 0, 1), right(turned(api.Eq), nums(1, 5, 5), 1, 1, 0, 1),
		right(plain(api.Ne), nums(0, 1, 1, 0, 1), 1, 0, 1, 0, 0, 1), right(plain(api.Ne), nums(2, 2, 2), 1, 2, 0, 1), right(turned(api.Ne), nums(2, 2, 2), 1, 2, 0, 1),
		right(plain(api.Lt), nums(0, 0, 1, 0, 1), 0, 0, 0, 1, 0, 0), right(turned(api.Lt), nums(3, 2, 1), 1, 3, 1, 1), right(turned(api.Lt), nums(0, 0, 1), 0, 0, 0, 0),
		right(plain(api.Gt), nums(2, 0, 1), 1, 2, 1, 1), right(plain(api.Gt), nums(1, 1, 0), 0, 1, 0, 0), right(turned(api.Gt), nums(1, 2, 3), 0, 1, 1, 0),
		right(plain(api.Le), nums(0, 1, 0), 1, 0, 1, 1), right(plain(api.Le), nums(1, 0, 0), 1, 1, 0, 1), right(turned(api.Le), nums(0, 2, 1), 0, 0, 0, 0),
		right(plain(api.Ge), nums(1, 2, 3), 1, 1, 0, 1), right(turned(api.Ge), nums(1, 2, 3), 1, 1, 1, 1),
		// A sign is the same as no number: not as 1, either.
		{plain(api.Eq), letters, arr.Atom(0), api.OK, list(lettered(), number(1), number(0)), api.OK}, {turned(api.Eq), letters, arr.Atom(0), api.OK, list(lettered(), number(1), number(0)), api.OK},
		{plain(api.Ne), letters, arr.Atom(1), api.OK, list(lettered(), number(0), number(1)), api.OK}, {plain(api.Eq), list(sign(1), sign(1), sign(1)), arr.Atom(0), api.OK, list(sign(1), number(1), number(0)), api.OK},
		{plain(api.Eq), list(number(1), lettered(), lettered()), arr.Atom(1), api.OK, list(number(1), number(0), number(1)), api.OK}, {turned(api.Ne), list(number(97), lettered()), arr.Atom(1), api.OK, list(number(97), number(1)), api.OK},
	})
}

// TestFirstError: 8.1 of other functions: the first error from the right; as far as each, that of the shortest.
func TestFirstError(t *testing.T) {
	sub, back := plain(api.Sub), turned(api.Sub)
	for _, c := range []api.Cell{lettered(), boxed()} {
		expectLines(t, []lineCase{
			failing(sub, list(c, number(most), number(-1)), api.ErrOverflow, api.ErrDomain), failing(sub, list(number(-2), number(most), c), api.ErrDomain, api.ErrOverflow), failing(sub, list(number(-2), c, number(most), number(-1)), api.ErrOverflow, api.ErrDomain), failing(sub, list(number(most), number(-1), c, number(2)), api.ErrDomain, api.ErrOverflow),
			failing(back, list(c, number(-1), number(most)), api.ErrOverflow, api.ErrDomain), failing(back, list(number(most), number(-2), c), api.ErrDomain, api.ErrOverflow), failing(back, list(number(0), c, number(-1), number(most)), api.ErrOverflow, api.ErrDomain), failing(back, list(number(-1), number(most), c, number(2)), api.ErrDomain, api.ErrOverflow),
		})
	}
	expectLines(t, []lineCase{
		// The whole would fit, and what comes on the way does not.
		failing(sub, nums(most, most, -1), api.ErrOverflow, api.ErrOverflow), failing(sub, nums(least, least, 5), api.ErrOverflow, api.ErrOverflow), failing(sub, nums(-1, 0, most, -1), api.ErrOverflow, api.ErrOverflow), failing(back, nums(1, -1, most), api.ErrOverflow, api.ErrOverflow),
		// What does not fit is the last step.
		failing(sub, nums(-2, most, 0), api.ErrOverflow, api.ErrOverflow), failing(back, nums(-1, 0, most), api.ErrOverflow, api.ErrOverflow),
		// The whole fits, and what comes as far as the second does not.
		wholeOnly(sub, -2, -2, most, most), wholeOnly(back, 2-most, most, -2, 0),
	})
}

// TestOtherKinds: 8.1 of other functions: what is no number (of Eq and Ne: what is a box) fails wherever it stands.
func TestOtherKinds(t *testing.T) {
	for _, op := range others() {
		l := []api.Cell{boxed(), box(arr.Atom(1))}
		if op != api.Eq && op != api.Ne {
			l = append(l, lettered(), sign(0))
		}
		for _, f := range []fold.F{plain(op), turned(op)} {
			for _, c := range l {
				expectLines(t, []lineCase{
					failing(f, list(c, number(1), number(2)), api.ErrDomain, api.ErrDomain), failing(f, list(number(1), c, number(2)), api.ErrDomain, api.ErrDomain), failing(f, list(number(1), number(2), c), api.ErrDomain, api.ErrDomain),
					failing(f, list(c, c, c), api.ErrDomain, api.ErrDomain), failing(f, list(c, number(0)), api.ErrDomain, api.ErrDomain), failing(f, list(number(0), c), api.ErrDomain, api.ErrDomain),
				})
			}
		}
	}
}

// table is two rows of three; solid two tables of three rows of four.
func table() api.Arr { return counted(2, 3) }
func solid() api.Arr { return counted(2, 3, 4) }

// mixed is two rows of cells of all kinds.
func mixed() api.Arr {
	return with([]int{2, 3}, number(1), lettered(), boxed(), sign(98), box(nums()), number(most))
}

// eight are MaxRank axes, all 1 but for one.
func eight(axis, long int) []int {
	shape := []int{1, 1, 1, 1, 1, 1, 1, 1}
	shape[axis] = long
	return shape
}

// sevenOnes are the axes that are left of eight.
func sevenOnes() []int { return []int{1, 1, 1, 1, 1, 1, 1} }

// TestAtoms: 8.2 and 8.3: an atom is itself, whatever it is and by whatever function.
func TestAtoms(t *testing.T) {
	for _, by := range both() {
		for _, f := range functions() {
			for _, c := range []api.Cell{small(), number(least), lettered(), boxed(), boxes(8, nums()).Cells[0]} {
				expectOnes(t, []oneCase{{by, f, atom(c), false, atom(c), api.OK}, {by, f, atom(c), true, atom(c), api.OK}})
			}
		}
	}
}

// redCases: 8.2, written out.
func redCases() []oneCase {
	add, sub, back, res := plain(api.Add), plain(api.Sub), turned(api.Sub), turned(api.Res)
	l := []oneCase{
		{fold.Red, add, table(), false, nums(3, 5, 7), api.OK}, {fold.Red, add, table(), true, nums(3, 12), api.OK},
		{fold.Red, sub, table(), false, nums(-3, -3, -3), api.OK}, {fold.Red, sub, table(), true, nums(1, 4), api.OK},
		{fold.Red, back, table(), false, nums(3, 3, 3), api.OK}, {fold.Red, back, table(), true, nums(1, -2), api.OK},
		{fold.Red, plain(api.Max), table(), false, nums(3, 4, 5), api.OK}, {fold.Red, plain(api.Min), table(), true, nums(0, 3), api.OK},
		{fold.Red, plain(api.Mul), table(), false, nums(0, 4, 10), api.OK}, {fold.Red, plain(api.Mul), table(), true, nums(0, 60), api.OK},
		{fold.Red, plain(api.Lt), table(), true, nums(1, 0), api.OK}, {fold.Red, res, of([]int{2, 2}, 7, 9, 5, 4), false, nums(2, 1), api.OK},
		{fold.Red, add, solid(), false, of([]int{3, 4}, 12, 14, 16, 18, 20, 22, 24, 26, 28, 30, 32, 34), api.OK}, {fold.Red, add, solid(), true, of([]int{2, 3}, 6, 22, 38, 54, 70, 86), api.OK},
		{fold.Red, sub, solid(), false, allOver(-12, 3, 4), api.OK}, {fold.Red, sub, solid(), true, allOver(-2, 2, 3), api.OK},
		// MaxRank axes.
		{fold.Red, sub, of(eight(0, 2), 5, 7), false, of(sevenOnes(), -2), api.OK}, {fold.Red, sub, of(eight(0, 2), 5, 7), true, of([]int{2, 1, 1, 1, 1, 1, 1}, 5, 7), api.OK},
		{fold.Red, sub, of(eight(7, 2), 5, 7), true, of(sevenOnes(), -2), api.OK}, {fold.Red, sub, of(eight(7, 2), 5, 7), false, of([]int{1, 1, 1, 1, 1, 1, 2}, 5, 7), api.OK},
		// An axis of 1: each cell is itself, whatever it is.
		{fold.Red, add, with([]int{1, 2, 3}, mixed().Cells...), false, mixed(), api.OK}, {fold.Red, plain(api.Lt), with([]int{2, 3, 1}, mixed().Cells...), true, mixed(), api.OK}, {fold.Red, add, of([]int{1, 1}, 9), false, nums(9), api.OK},
		// An axis of 0, with cells in what comes of it, and without.
		{fold.Red, add, of([]int{0, 3}), false, nums(0, 0, 0), api.OK}, {fold.Red, add, of([]int{3, 0}), true, nums(0, 0, 0), api.OK}, {fold.Red, back, of([]int{0, 2, 2}), false, allOver(0, 2, 2), api.OK}, {fold.Red, sub, of([]int{2, 1, 0}), true, allOver(0, 2, 1), api.OK},
		{fold.Red, plain(api.Mul), of([]int{0, 3}), false, nums(1, 1, 1), api.OK}, {fold.Red, turned(api.Mul), of([]int{3, 0}), true, nums(1, 1, 1), api.OK}, {fold.Red, add, of([]int{0, full}), false, allOver(0, full), api.OK}, {fold.Red, plain(api.Mul), of([]int{full, 0}), true, allOver(1, full), api.OK},
		{fold.Red, add, of(eight(7, 0)), true, of(sevenOnes(), 0), api.OK}, {fold.Red, plain(api.Max), of(eight(0, 0)), false, api.Arr{}, api.ErrDomain},
		// As many as there may be.
		{fold.Red, add, counted(full), false, arr.Atom(full * (full - 1) / 2), api.OK}, {fold.Red, sub, counted(full), true, arr.Atom(-full / 2), api.OK}, {fold.Red, add, counted(1, full), false, counted(full), api.OK}, {fold.Red, plain(api.Max), counted(full, 1), true, counted(full), api.OK}, {fold.Red, add, allOver(1, 128, 128), false, allOver(128, 128), api.OK},
	}
	for _, f := range functions() {
		l = append(l,
			oneCase{fold.Red, f, of([]int{0, 3}), true, of([]int{0}), api.OK}, oneCase{fold.Red, f, of([]int{3, 0}), false, of([]int{0}), api.OK}, oneCase{fold.Red, f, of([]int{0, 0}), true, of([]int{0}), api.OK}, oneCase{fold.Red, f, of([]int{2, 0, 3}), true, of([]int{2, 0}), api.OK}, oneCase{fold.Red, f, of([]int{2, 0, 3}), false, of([]int{0, 3}), api.OK},
			// Without that axis there are too many cells: that is told ahead of what the lines are.
			oneCase{fold.Red, f, of([]int{0, 129, 128}), false, api.Arr{}, api.ErrCells}, oneCase{fold.Red, f, of([]int{full, 2, 0}), true, api.Arr{}, api.ErrCells}, oneCase{fold.Red, f, of([]int{full, full, full, full, full, full, full, 0}), true, api.Arr{}, api.ErrCells}, oneCase{fold.Red, f, of([]int{0, full, full, full, full, full, full, full}), false, api.Arr{}, api.ErrCells},
			oneCase{fold.Red, f, of([]int{full, full, 0}), false, of([]int{full, 0}), api.OK}, oneCase{fold.Red, f, of([]int{0, full, full}), true, of([]int{0, full}), api.OK}, oneCase{fold.Red, f, of([]int{0, full, full, full, 0}), true, of([]int{0, full, full, full}), api.OK})
	}
	return l
}

// TestRed: 8.2.
func TestRed(t *testing.T) { expectOnes(t, redCases()) }

// scanCases: 8.3, written out.
func scanCases() []oneCase {
	add, sub, back := plain(api.Add), plain(api.Sub), turned(api.Sub)
	seven := with([]int{1, 2, 3}, mixed().Cells...)
	l := []oneCase{
		{fold.Scan, add, table(), false, of([]int{2, 3}, 0, 1, 2, 3, 5, 7), api.OK}, {fold.Scan, add, table(), true, of([]int{2, 3}, 0, 1, 3, 3, 7, 12), api.OK},
		{fold.Scan, sub, table(), false, of([]int{2, 3}, 0, 1, 2, -3, -3, -3), api.OK}, {fold.Scan, sub, table(), true, of([]int{2, 3}, 0, -1, 1, 3, -1, 4), api.OK},
		{fold.Scan, back, table(), false, of([]int{2, 3}, 0, 1, 2, 3, 3, 3), api.OK}, {fold.Scan, back, table(), true, of([]int{2, 3}, 0, 1, 1, 3, 1, -2), api.OK},
		{fold.Scan, plain(api.Max), of([]int{3, 2}, 5, 1, 2, 4, 3, 3), false, of([]int{3, 2}, 5, 1, 5, 4, 5, 4), api.OK}, {fold.Scan, plain(api.Min), of([]int{3, 2}, 5, 1, 2, 4, 3, 3), true, of([]int{3, 2}, 5, 1, 2, 2, 3, 3), api.OK},
		{fold.Scan, plain(api.Lt), of([]int{3, 2}, 0, 1, 1, 0, 0, 0), false, of([]int{3, 2}, 0, 1, 1, 0, 0, 0), api.OK}, {fold.Scan, plain(api.Res), of([]int{2, 3}, 2, 4, 7, 3, -1, 5), true, of([]int{2, 3}, 2, 0, 1, 3, 2, 0), api.OK},
		{fold.Scan, add, solid(), false, of([]int{2, 3, 4}, 0, 1, 2, 3, 4, 5, 6, 7, 8, 9, 10, 11, 12, 14, 16, 18, 20, 22, 24, 26, 28, 30, 32, 34), api.OK}, {fold.Scan, add, solid(), true, of([]int{2, 3, 4}, 0, 1, 3, 6, 4, 9, 15, 22, 8, 17, 27, 38, 12, 25, 39, 54, 16, 33, 51, 70, 20, 41, 63, 86), api.OK},
		// MaxRank axes.
		{fold.Scan, sub, of(eight(0, 3), 5, 7, 1), false, of(eight(0, 3), 5, -2, -1), api.OK}, {fold.Scan, sub, of(eight(0, 3), 5, 7, 1), true, of(eight(0, 3), 5, 7, 1), api.OK}, {fold.Scan, sub, of(eight(7, 3), 5, 7, 1), true, of(eight(7, 3), 5, -2, -1), api.OK}, {fold.Scan, sub, of(eight(7, 3), 5, 7, 1), false, of(eight(7, 3), 5, 7, 1), api.OK},
		// The first cell of each line is itself, whatever it is.
		{fold.Scan, add, seven, false, seven, api.OK}, {fold.Scan, plain(api.Ge), with([]int{2, 3, 1}, mixed().Cells...), true, with([]int{2, 3, 1}, mixed().Cells...), api.OK}, {fold.Scan, add, mixed(), false, api.Arr{}, api.ErrDomain}, {fold.Scan, plain(api.Eq), text("aab"), true, list(lettered(), number(1), number(0)), api.OK},
		// As many as there may be.
		{fold.Scan, plain(api.Max), counted(full), false, counted(full), api.OK}, {fold.Scan, add, counted(1, full), false, counted(1, full), api.OK}, {fold.Scan, add, counted(full, 1), true, counted(full, 1), api.OK}, {fold.Scan, plain(api.Mul), allOver(1, 128, 128), true, allOver(1, 128, 128), api.OK},
	}
	for _, f := range functions() {
		for _, shape := range [][]int{{0}, {0, 3}, {3, 0}, {0, 0}, {2, 0, 3}, eight(0, 0), eight(7, 0), {0, 129, 128}, {full, 2, 0}, {full, full, full, full, full, full, full, 0}, {0, full, full, full, full, full, full, full}} {
			l = append(l, oneCase{fold.Scan, f, of(shape), false, of(shape), api.OK}, oneCase{fold.Scan, f, of(shape), true, of(shape), api.OK})
		}
	}
	return l
}

// TestScan: 8.3.
func TestScan(t *testing.T) { expectOnes(t, scanCases()) }

// TestFirstLine: 8.2 and 8.3: of lines that fail the first tells, and of it, as far as each, the shortest that fails.
func TestFirstLine(t *testing.T) {
	add := plain(api.Add)
	late := list(number(1), number(2), lettered())
	soon := nums(most, 1, 0)
	fine := nums(7, -5, 3)
	never := list(lettered(), number(1), number(1))
	for _, c := range []struct {
		lines     []api.Arr
		red, scan api.Errno
	}{
		{[]api.Arr{late, soon}, api.ErrDomain, api.ErrDomain}, {[]api.Arr{soon, late}, api.ErrOverflow, api.ErrOverflow},
		{[]api.Arr{fine, late, soon}, api.ErrDomain, api.ErrDomain}, {[]api.Arr{fine, soon, late}, api.ErrOverflow, api.ErrOverflow}, {[]api.Arr{fine, fine, soon, never}, api.ErrOverflow, api.ErrOverflow}, {[]api.Arr{fine, never, soon, fine}, api.ErrDomain, api.ErrDomain},
		// This one fails twice, each call in its own way.
		{[]api.Arr{fine, list(number(most), number(1), boxed()), soon}, api.ErrDomain, api.ErrOverflow}, {[]api.Arr{list(number(most), number(1), boxed()), late}, api.ErrDomain, api.ErrOverflow},
		// The whole fits where a part does not.
		{[]api.Arr{nums(most, 1, -1), late}, api.ErrDomain, api.ErrOverflow}, {[]api.Arr{late, nums(most, 1, -1)}, api.ErrDomain, api.ErrDomain},
	} {
		rows, columns := api.Arr{Shape: []int{len(c.lines), 3}}, api.Arr{Shape: []int{3, len(c.lines)}}
		for _, line := range c.lines {
			rows.Cells = append(rows.Cells, line.Cells...)
		}
		for i := range 3 {
			for _, line := range c.lines {
				columns.Cells = append(columns.Cells, line.Cells[i])
			}
		}
		expectOnes(t, []oneCase{{fold.Red, add, rows, true, api.Arr{}, c.red}, {fold.Red, add, columns, false, api.Arr{}, c.red}, {fold.Scan, add, rows, true, api.Arr{}, c.scan}, {fold.Scan, add, columns, false, api.Arr{}, c.scan}})
	}
}

// outerCases: 8.4, written out.
func outerCases() []twoCase {
	add, sub, back, eq := plain(api.Add), plain(api.Sub), turned(api.Sub), plain(api.Eq)
	a := nums(1, 2, 3)
	l := []twoCase{
		{sub, arr.Atom(5), arr.Atom(3), arr.Atom(2), api.OK}, {back, arr.Atom(5), arr.Atom(3), arr.Atom(-2), api.OK}, {eq, atom(lettered()), atom(lettered()), arr.Atom(1), api.OK}, {turned(api.Ne), atom(lettered()), arr.Atom(97), arr.Atom(1), api.OK},
		{sub, arr.Atom(5), a, nums(4, 3, 2), api.OK}, {sub, a, arr.Atom(5), nums(-4, -3, -2), api.OK}, {back, a, arr.Atom(5), nums(4, 3, 2), api.OK},
		{sub, nums(10, 20), a, of([]int{2, 3}, 9, 8, 7, 19, 18, 17), api.OK}, {back, nums(10, 20), a, of([]int{2, 3}, -9, -8, -7, -19, -18, -17), api.OK}, {plain(api.Mul), a, a, of([]int{3, 3}, 1, 2, 3, 2, 4, 6, 3, 6, 9), api.OK}, {plain(api.Lt), a, a, of([]int{3, 3}, 0, 1, 1, 0, 0, 1, 0, 0, 0), api.OK}, {turned(api.Lt), a, a, of([]int{3, 3}, 0, 0, 0, 1, 0, 0, 1, 1, 0), api.OK},
		{plain(api.Res), nums(0, 3, -3), nums(7, -1), of([]int{3, 2}, 7, -1, 1, 2, -2, -1), api.OK}, {turned(api.Res), nums(7, -1), nums(0, 3, -3), of([]int{2, 3}, 7, 1, -2, -1, 2, -1), api.OK},
		{add, table(), nums(10, 20), of([]int{2, 3, 2}, 10, 20, 11, 21, 12, 22, 13, 23, 14, 24, 15, 25), api.OK}, {add, nums(10, 20), table(), of([]int{2, 2, 3}, 10, 11, 12, 13, 14, 15, 20, 21, 22, 23, 24, 25), api.OK},
		{sub, of([]int{2, 1}, 5, 6), of([]int{1, 2}, 1, 2), of([]int{2, 1, 1, 2}, 4, 3, 5, 4), api.OK}, {sub, nums(5), nums(1), of([]int{1, 1}, 4), api.OK},
		{eq, text("ab"), list(sign(98), number(98)), of([]int{2, 2}, 0, 0, 1, 0), api.OK},
		// As many axes and cells as there may be.
		{add, of([]int{1, 1, 1, 1}, 1), of([]int{1, 1, 1, 2}, 2, 3), of(eight(7, 2), 3, 4), api.OK}, {add, of(eight(0, 2), 1, 2), arr.Atom(3), of(eight(0, 2), 4, 5), api.OK}, {add, arr.Atom(3), of(eight(7, 2), 1, 2), of(eight(7, 2), 4, 5), api.OK}, {add, allOver(1, 128), allOver(2, 128), allOver(3, 128, 128), api.OK}, {add, arr.Atom(0), counted(full), counted(full), api.OK}, {add, counted(full), nums(0), counted(full, 1), api.OK},
		// The first that fails tells.
		{add, nums(1, most), nums(0, 1), api.Arr{}, api.ErrOverflow}, {add, list(number(most), lettered()), nums(1), api.Arr{}, api.ErrOverflow}, {add, list(lettered(), number(most)), nums(1), api.Arr{}, api.ErrDomain}, {add, nums(most), list(number(1), boxed()), api.Arr{}, api.ErrOverflow}, {add, nums(most), list(boxed(), number(1)), api.Arr{}, api.ErrDomain}, {add, nums(0, most), list(number(1), boxed()), api.Arr{}, api.ErrDomain}, {add, list(number(most), lettered()), nums(0, 1), api.Arr{}, api.ErrOverflow}, {eq, list(lettered(), boxed()), nums(1), api.Arr{}, api.ErrDomain}, {eq, atom(boxed()), atom(boxed()), api.Arr{}, api.ErrDomain}, {plain(api.Min), atom(lettered()), arr.Atom(1), api.Arr{}, api.ErrDomain},
		{sub, nums(0), nums(least), api.Arr{}, api.ErrOverflow}, {back, nums(least), nums(0), api.Arr{}, api.ErrOverflow}, {back, nums(0), nums(least), of([]int{1, 1}, least), api.OK},
	}
	return append(l, outerShapes()...)
}

// outerShapes: 8.4: shapes that have no cells together, or may not be.
func outerShapes() []twoCase {
	l := []twoCase{}
	for _, f := range functions() {
		l = append(l,
			twoCase{f, nums(), nums(1, 2), of([]int{0, 2}), api.OK}, twoCase{f, list(boxed(), boxed()), nums(), of([]int{2, 0}), api.OK}, twoCase{f, nums(), nums(), of([]int{0, 0}), api.OK}, twoCase{f, atom(boxed()), of([]int{0, 3}), of([]int{0, 3}), api.OK}, twoCase{f, of([]int{3, 0}), atom(lettered()), of([]int{3, 0}), api.OK}, twoCase{f, counted(full), of([]int{full, 0, full}), of([]int{full, full, 0, full}), api.OK}, twoCase{f, of([]int{0, full, full, full}), of([]int{full, full, full, 0}), of([]int{0, full, full, full, full, full, full, 0}), api.OK},
			twoCase{f, of([]int{1, 1, 1, 1, 1}, 1), of([]int{1, 1, 1, 1}, 1), api.Arr{}, api.ErrRank}, twoCase{f, of(eight(0, 1), 1), nums(1), api.Arr{}, api.ErrRank}, twoCase{f, nums(1), of(eight(7, 0)), api.Arr{}, api.ErrRank}, twoCase{f, of(eight(7, 0)), nums(), api.Arr{}, api.ErrRank}, twoCase{f, of(eight(0, 1), 1), of(eight(0, 1), 1), api.Arr{}, api.ErrRank},
			twoCase{f, counted(129), counted(128), api.Arr{}, api.ErrCells}, twoCase{f, counted(128), counted(129), api.Arr{}, api.ErrCells}, twoCase{f, counted(full), nums(1, 2), api.Arr{}, api.ErrCells}, twoCase{f, nums(1, 2), counted(full), api.Arr{}, api.ErrCells}, twoCase{f, counted(full), counted(full), api.Arr{}, api.ErrCells},
			// That is told ahead of what the cells are; too many axes ahead of too many cells.
			twoCase{f, list(slices.Repeat([]api.Cell{boxed()}, 129)...), counted(128), api.Arr{}, api.ErrCells}, twoCase{f, of(eight(0, 2), 1, 2), counted(full), api.Arr{}, api.ErrRank}, twoCase{f, with(eight(0, 1), boxed()), text("ab"), api.Arr{}, api.ErrRank})
	}
	return l
}

// TestOuter: 8.4.
func TestOuter(t *testing.T) { expectTwos(t, outerCases()) }

// wantTwo is a function of two cells, said again.
func wantTwo(f fold.F, a, b api.Cell) (api.Cell, api.Errno) {
	if f.Turned {
		return atomic.Cell(f.Op, b, a)
	}
	return atomic.Cell(f.Op, a, b)
}

// wantAll is the sum or the product of a line, with numbers of any size.
func wantAll(line []api.Cell, whole int64, with func(whole, n *big.Int)) (api.Cell, api.Errno) {
	out := big.NewInt(whole)
	for _, c := range line {
		if c.Kind != api.CInt {
			return api.Cell{}, api.ErrDomain
		}
		with(out, big.NewInt(c.N))
	}
	if !out.IsInt64() {
		return api.Cell{}, api.ErrOverflow
	}
	return number(out.Int64()), api.OK
}

// wantLine is 8.1, said again: the first one's function of what comes of the rest.
func wantLine(f fold.F, line []api.Cell) (api.Cell, api.Errno) {
	switch {
	case len(line) == 1:
		return line[0], api.OK
	case f.Op == api.Add:
		return wantAll(line, 0, func(whole, n *big.Int) { whole.Add(whole, n) })
	case f.Op == api.Mul:
		return wantAll(line, 1, func(whole, n *big.Int) { whole.Mul(whole, n) })
	case len(line) == 0 && f.Op == api.Sub:
		return number(0), api.OK
	case len(line) == 0:
		return api.Cell{}, api.ErrDomain
	}
	rest, e := wantLine(f, line[1:])
	if e != api.OK {
		return api.Cell{}, e
	}
	return wantTwo(f, line[0], rest)
}

// axisOf is the axis along which an array is folded.
func axisOf(a api.Arr, last bool) int {
	if last {
		return len(a.Shape) - 1
	}
	return 0
}

// lineAt is the line of cells along an axis that stands at places along the others, place by place.
func lineAt(a api.Arr, axis int, at []int) ([]api.Cell, []int) {
	cells, places := []api.Cell{}, []int{}
	for i := range a.Shape[axis] {
		n, _ := arr.Place(a.Shape, slices.Insert(slices.Clone(at), axis, i))
		cells, places = append(cells, a.Cells[n]), append(places, n)
	}
	return cells, places
}

// wantRed is 8.2, said again of arrays that have an axis.
func wantRed(f fold.F, a api.Arr, last bool) (api.Arr, api.Errno) {
	axis := axisOf(a, last)
	out := api.Arr{Shape: slices.Delete(slices.Clone(a.Shape), axis, axis+1)}
	size, e := arr.Size(out.Shape)
	if e != api.OK {
		return api.Arr{}, e
	}
	for n := range size {
		at, _ := arr.Places(out.Shape, n)
		line, _ := lineAt(a, axis, at)
		c, e := wantLine(f, line)
		if e != api.OK {
			return api.Arr{}, e
		}
		out.Cells = append(out.Cells, c)
	}
	return out, api.OK
}

// wantScan is 8.3, said again of arrays that have an axis and cells.
func wantScan(f fold.F, a api.Arr, last bool) (api.Arr, api.Errno) {
	axis := axisOf(a, last)
	out := arr.Copy(a)
	rest := slices.Delete(slices.Clone(a.Shape), axis, axis+1)
	size, _ := arr.Size(rest)
	for n := range size {
		at, _ := arr.Places(rest, n)
		line, places := lineAt(a, axis, at)
		for i, place := range places {
			c, e := wantLine(f, line[:i+1])
			if e != api.OK {
				return api.Arr{}, e
			}
			out.Cells[place] = c
		}
	}
	return out, api.OK
}

// wantOuter is 8.4, said again.
func wantOuter(f fold.F, a, b api.Arr) (api.Arr, api.Errno) {
	out := api.Arr{Shape: slices.Concat(a.Shape, b.Shape)}
	if _, e := arr.Size(out.Shape); e != api.OK {
		return api.Arr{}, e
	}
	for _, one := range a.Cells {
		for _, two := range b.Cells {
			c, e := wantTwo(f, one, two)
			if e != api.OK {
				return api.Arr{}, e
			}
			out.Cells = append(out.Cells, c)
		}
	}
	return out, api.OK
}

// shapes are those of many ranks, empty ones among them; all but the first have an axis.
func shapes() [][]int {
	return [][]int{
		nil, {0}, {1}, {2}, {3}, {7}, {30}, {1, 1}, {2, 3}, {3, 2}, {9, 2}, {2, 9}, {5, 1}, {1, 5}, {0, 3}, {3, 0}, {0, 0}, {5, 2, 2}, {4, 3, 2}, {3, 1, 2}, {2, 0, 3}, {0, 2, 3}, {2, 3, 0}, {2, 2, 2, 2, 2, 2, 2, 2}, {1, 1, 1, 1, 1, 1, 1, 1}, {4, 1, 1, 1, 1, 1, 1, 3}, {5, 0, 16384}, {200, 100, 0}, {0, 200, 100}, {3, 2, 1, 2, 0, 2, 1, 2},
	}
}

// chance is cells by chance: small numbers, numbers near the ends, or, one among so many, a cell of another kind.
type chance struct {
	*rand.Rand
	odd int
	far bool
}

func (r chance) cell() api.Cell {
	if r.odd > 0 && r.Intn(r.odd) == 0 {
		return []api.Cell{lettered(), sign(1), boxed()}[r.Intn(3)]
	}
	if r.far && r.Intn(3) == 0 {
		return number([]int64{least, least + 1, most, most - 1, 1 << 62, -1 << 62, 1 << 32, -1 << 31}[r.Intn(8)])
	}
	return number(r.Int63n(7) - 3)
}

func (r chance) filled(shape []int) api.Arr {
	size, _ := arr.Size(shape)
	a := api.Arr{Shape: shape, Cells: make([]api.Cell, size)}
	for i := range a.Cells {
		a.Cells[i] = r.cell()
	}
	return a
}

// chances are ways to fill arrays: with numbers that all fit, with others, with some of other kinds.
func chances(seed int64) []chance {
	r := rand.New(rand.NewSource(seed))
	return []chance{{r, 0, false}, {r, 0, true}, {r, 40, false}, {r, 12, true}, {r, 2, false}}
}

// TestAlong: 8.2 and 8.3 of arrays of many shapes, line by line.
func TestAlong(t *testing.T) {
	for _, by := range chances(82) {
		for _, shape := range shapes()[1:] {
			for _, f := range functions() {
				for _, last := range []bool{false, true} {
					a := by.filled(shape)
					got, e := fold.Red(f, a, last)
					want, wantErr := wantRed(f, a, last)
					expect(t, "Red", got, e, want, wantErr)
					got, e = fold.Scan(f, a, last)
					want, wantErr = a, api.OK
					if len(a.Cells) > 0 {
						want, wantErr = wantScan(f, a, last)
					}
					expect(t, "Scan", got, e, want, wantErr)
				}
			}
		}
	}
}

// TestShortLines: 8.1 of many lines, so short that nearly each way to fail stands alone in one of them.
func TestShortLines(t *testing.T) {
	for _, by := range chances(81) {
		for range 400 {
			a := by.filled([]int{by.Intn(7) + 1})
			for _, f := range functions() {
				got, e := fold.Red(f, a, true)
				want, wantErr := wantRed(f, a, true)
				expect(t, "Red", got, e, want, wantErr)
				got, e = fold.Scan(f, a, true)
				want, wantErr = wantScan(f, a, true)
				expect(t, "Scan", got, e, want, wantErr)
			}
		}
	}
}

// TestEach: 8.4 of arrays of many shapes, cell by cell.
func TestEach(t *testing.T) {
	for _, by := range chances(84) {
		for _, one := range shapes() {
			for _, two := range shapes() {
				a, b, op := by.filled(one), by.filled(two), ops()[by.Intn(len(ops()))]
				for _, f := range []fold.F{plain(op), turned(op)} {
					got, e := fold.Outer(f, a, b)
					want, wantErr := wantOuter(f, a, b)
					expect(t, "Outer", got, e, want, wantErr)
				}
			}
		}
	}
}

// wrongArray may not be.
type wrongArray struct {
	a   api.Arr
	err api.Errno
}

func wrongArrays() []wrongArray {
	return []wrongArray{
		{api.Arr{}, api.ErrArg},
		{of(nil, 1, 2), api.ErrArg},
		{of([]int{2}, 1), api.ErrArg},
		{of([]int{0, 3}, 1), api.ErrArg},
		{of([]int{-1}), api.ErrArg},
		{of([]int{1, 1, 1, 1, 1, 1, 1, 1, 1}, 1), api.ErrRank},
		{of([]int{1, 1, 1, 1, 1, 1, 1, 1, 0}), api.ErrRank},
		{of([]int{16385}), api.ErrCells},
		{of([]int{16385, 0}), api.ErrCells},
		{boxes(9, arr.Atom(1)), api.ErrDeep},
		{atom(api.Cell{Kind: 3}), api.ErrArg},
		{list(number(1), api.Cell{Kind: -1}), api.ErrArg},
		{list(sign(97), sign(0xd800)), api.ErrArg},
		{list(number(1), api.Cell{Kind: api.CBox}), api.ErrArg},
		{atom(api.Cell{Kind: api.CBox, Box: []api.Arr{arr.Atom(1), arr.Atom(2)}}), api.ErrArg},
		{list(api.Cell{Kind: api.CInt, Box: []api.Arr{arr.Atom(1)}}), api.ErrArg},
		{atom(box(of([]int{16385}))), api.ErrCells},
	}
}

// goodArrays may be; some of them fail in other ways.
func goodArrays() []api.Arr {
	return []api.Arr{arr.Atom(0), arr.Atom(most), atom(lettered()), boxes(8, nums()), nums(), nums(1, 2), nums(most, 1), text("ab"), of([]int{0, 3}), of([]int{3, 0}), of([]int{0, full, full}), of([]int{full, full, 0}), of(eight(0, 2), 1, 2), table(), mixed()}
}

// TestWrong: what may not be is told ahead of all else, of a ahead of b.
func TestWrong(t *testing.T) {
	fs := functions()
	for _, op := range noOps() {
		fs = append(fs, plain(op), turned(op))
	}
	for _, f := range fs {
		for _, w := range wrongArrays() {
			for _, by := range both() {
				expectOnes(t, []oneCase{{by, f, w.a, false, api.Arr{}, w.err}, {by, f, w.a, true, api.Arr{}, w.err}})
			}
			for _, other := range goodArrays() {
				expectTwos(t, []twoCase{{f, w.a, other, api.Arr{}, w.err}, {f, other, w.a, api.Arr{}, w.err}})
			}
			for _, other := range wrongArrays() {
				expectTwos(t, []twoCase{{f, w.a, other.a, api.Arr{}, w.err}})
			}
		}
	}
}

// TestNone: numbers that name no function that goes cell by cell, ahead of all that shapes and cells are: of an atom, too.
func TestNone(t *testing.T) {
	for _, op := range noOps() {
		for _, f := range []fold.F{plain(op), turned(op)} {
			for _, a := range goodArrays() {
				for _, by := range both() {
					expectOnes(t, []oneCase{{by, f, a, false, api.Arr{}, api.ErrArg}, {by, f, a, true, api.Arr{}, api.ErrArg}})
				}
				for _, b := range goodArrays() {
					expectTwos(t, []twoCase{{f, a, b, api.Arr{}, api.ErrArg}})
				}
			}
		}
	}
}

// TestFollows: 8.5: the last of what is folded as far as each is the whole folded, and so each is that of the line as far as there.
func TestFollows(t *testing.T) {
	for _, by := range chances(85) {
		for range 60 {
			line := by.filled([]int{by.Intn(40) + 1})
			for _, f := range functions() {
				scan, e := fold.Scan(f, line, by.Intn(2) == 0)
				for i := range line.Cells {
					red, redErr := fold.Red(f, list(line.Cells[:i+1]...), false)
					if e == api.OK {
						expect(t, "as far as there", red, redErr, atom(scan.Cells[i]), api.OK)
					} else if redErr != api.OK {
						expect(t, "as far as each", scan, e, api.Arr{}, redErr)
						break
					}
				}
			}
		}
	}
}

// TestMany: P1 and 8.5 of lines of as many cells as there may be, by each function.
func TestMany(t *testing.T) {
	r := chance{Rand: rand.New(rand.NewSource(86))}
	for _, f := range functions() {
		a := r.filled([]int{full})
		if f.Op == api.Mul {
			// Signs alone change, so that the product fits.
			for i, c := range a.Cells {
				a.Cells[i].N = 1 - 2*(c.N&1)
			}
		}
		scan, e := fold.Scan(f, a, true)
		if e != api.OK {
			t.Fatalf("Scan by %v: %v", f, e)
		}
		for _, i := range []int{0, 1, 2, 99, full / 2, full - 2, full - 1} {
			red, e := fold.Red(f, list(a.Cells[:i+1]...), true)
			expect(t, "as far as there", red, e, atom(scan.Cells[i]), api.OK)
		}
	}
}

// spoil changes all that an array holds, and what lies behind its lists.
func spoil(a api.Arr) {
	shape := a.Shape[:cap(a.Shape)]
	for i := range shape {
		shape[i] = 77
	}
	cells := a.Cells[:cap(a.Cells)]
	for i := range cells {
		within := cells[i].Box[:cap(cells[i].Box)]
		for k := range within {
			spoil(within[k])
			within[k] = arr.Atom(77)
		}
		cells[i] = api.Cell{Kind: 77, N: 77}
	}
}

// expectApart: a call leaves what it is given as it was, and answers alike twice, in memory of its own.
func expectApart(t *testing.T, given []api.Arr, err api.Errno, call func() (api.Arr, api.Errno)) {
	t.Helper()
	was := []api.Arr{}
	for _, a := range given {
		was = append(was, arr.Copy(a))
	}
	got, e := call()
	second, e2 := call()
	want := arr.Copy(got)
	if !slices.EqualFunc(given, was, alike) || !alike(got, second) || e != err || e2 != err {
		t.Errorf("%v: changed, or not alike twice", short(was[0]))
	}
	spoil(got)
	if !slices.EqualFunc(given, was, alike) || !alike(second, want) {
		t.Errorf("%v: what comes of it is shared", short(was[0]))
	}
	for _, a := range given {
		spoil(a)
	}
	if !alike(second, want) {
		t.Errorf("%v: what came in is answered", short(was[0]))
	}
}

// TestStays: R3 and P7: what came in stays as it was, an answer shares nothing with it, nor with another answer, and is alike each time.
func TestStays(t *testing.T) {
	for _, c := range slices.Concat(redCases(), scanCases()) {
		a := arr.Copy(c.a)
		expectApart(t, []api.Arr{a}, c.wantErr, func() (api.Arr, api.Errno) { return c.by(c.f, a, c.last) })
	}
	for _, c := range outerCases() {
		a, b := arr.Copy(c.a), arr.Copy(c.b)
		expectApart(t, []api.Arr{a, b}, c.wantErr, func() (api.Arr, api.Errno) { return fold.Outer(c.f, a, b) })
	}
	for _, by := range both() {
		for _, c := range []api.Cell{small(), lettered(), boxed()} {
			for _, last := range []bool{false, true} {
				for _, shape := range [][]int{nil, {1}, {1, 1}, eight(0, 1)} {
					a := arr.Copy(with(shape, c))
					expectApart(t, []api.Arr{a}, api.OK, func() (api.Arr, api.Errno) { return by(plain(api.Sub), a, last) })
				}
			}
		}
	}
}

// TestOneBoxTwice: R3: boxes that share their memory when they come in share none in the answer.
func TestOneBoxTwice(t *testing.T) {
	c := boxed()
	for _, by := range both() {
		for _, last := range []bool{false, true} {
			shape := []int{1, 2}
			if last {
				shape = []int{2, 1}
			}
			got, e := by(plain(api.Add), with(shape, c, c), last)
			if e != api.OK {
				t.Fatal(e)
			}
			spoil(atom(got.Cells[0]))
			if !alikeCells(got.Cells[1], boxed()) {
				t.Errorf("two boxes of one answer share memory")
			}
		}
	}
}

// TestOneTwice: R3: one array as both arguments stays, too.
func TestOneTwice(t *testing.T) {
	a := nums(7, 5)
	got, e := fold.Outer(plain(api.Sub), a, a)
	expect(t, "of one array twice", got, e, of([]int{2, 2}, 0, 2, -2, 0), api.OK)
	spoil(got)
	expect(t, "that array", a, api.OK, nums(7, 5), api.OK)
}

// TestBehind: R3: what lies behind the lists' lengths is neither read, nor written, nor handed out.
func TestBehind(t *testing.T) {
	for _, f := range functions() {
		for _, ranks := range [][2]int{{0, 0}, {0, 1}, {1, 0}, {1, 1}, {1, 2}, {2, 1}, {2, 2}, {0, 2}, {2, 0}} {
			one, two := []int{2, 2, 5}, []int{2, 2, 6}
			few := []api.Cell{number(3), number(0), number(1), number(0), sign(97)}
			cells := []api.Cell{number(1), number(4), number(1), number(0), boxed()}
			a := api.Arr{Shape: one[:ranks[0]], Cells: few[:1<<ranks[0]]}
			b := api.Arr{Shape: two[:ranks[1]], Cells: cells[:1<<ranks[1]]}
			for _, call := range []func(a, b api.Arr) (api.Arr, api.Errno){
				func(a, b api.Arr) (api.Arr, api.Errno) { return fold.Outer(f, a, b) },
				func(a, b api.Arr) (api.Arr, api.Errno) { return fold.Red(f, a, false) },
				func(a, b api.Arr) (api.Arr, api.Errno) { return fold.Red(f, a, true) },
				func(a, b api.Arr) (api.Arr, api.Errno) { return fold.Scan(f, b, false) },
				func(a, b api.Arr) (api.Arr, api.Errno) { return fold.Scan(f, b, true) },
			} {
				got, e := call(a, b)
				want, wantErr := call(arr.Copy(a), arr.Copy(b))
				expect(t, "with memory behind", got, e, want, wantErr)
				spoil(got)
			}
			if !slices.Equal(one, []int{2, 2, 5}) || !slices.Equal(two, []int{2, 2, 6}) || !alike(list(few...), list(number(3), number(0), number(1), number(0), sign(97))) || !alike(list(cells...), list(number(1), number(4), number(1), number(0), boxed())) {
				t.Errorf("by %v: changed: %v, %v, %v, %v", f, one, two, few, cells)
			}
		}
	}
}

// TestExamples: the chapter's.
func TestExamples(t *testing.T) {
	a := nums(1, 2, 3)
	for _, last := range []bool{false, true} {
		expectOnes(t, []oneCase{
			{fold.Red, plain(api.Sub), a, last, arr.Atom(2), api.OK}, {fold.Scan, plain(api.Add), a, last, nums(1, 3, 6), api.OK},
			{fold.Red, plain(api.Add), nums(most, 1, -1), last, arr.Atom(most), api.OK}, {fold.Red, plain(api.Max), nums(), last, api.Arr{}, api.ErrDomain},
		})
	}
}
