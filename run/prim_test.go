package run_test

import (
	"math"
	"slices"
	"strconv"
	"testing"

	"triglyph/api"
	"triglyph/arr"
	"triglyph/atomic"
	"triglyph/layout"
	"triglyph/pick"
	"triglyph/run"
	"triglyph/seek"
)

// expect holds an answer against the one asked for: with an error nothing else.
func expect(t *testing.T, what string, got api.Arr, e api.Errno, want api.Arr, wantErr api.Errno) {
	t.Helper()
	if wantErr != api.OK {
		want = api.Arr{}
	}
	if e != wantErr || !alike(got, want) {
		t.Errorf("%s: %v, %v; want %v, %v", what, short(got), e, short(want), wantErr)
	}
}

// oneCase is a primitive of one argument, and what comes of it.
type oneCase struct {
	op   int
	x    api.Arr
	want api.Arr
	err  api.Errno
}

// oneCases are every primitive of one argument, with a value and, where there is one, an error.
func oneCases() []oneCase {
	table := of([]int{2, 3}, 1, 2, 3, 4, 5, 6)
	return []oneCase{
		{api.Neg, nums(1, -2, 0), nums(-1, 2, 0), 0},
		{api.Neg, num(math.MinInt64), num(0), api.ErrOverflow},
		{api.Neg, text("ab"), num(0), api.ErrDomain},
		{api.Sgn, nums(7, -7, 0), nums(1, -1, 0), 0},
		{api.Abs, nums(7, -7, 0), nums(7, 7, 0), 0},
		{api.Abs, num(math.MinInt64), num(0), api.ErrOverflow},
		{api.Not, nums(0, 1), nums(1, 0), 0},
		{api.Not, num(2), num(0), api.ErrDomain},
		{api.Iota, num(3), nums(0, 1, 2), 0},
		{api.Iota, nums(3), num(0), api.ErrRank},
		{api.Iota, num(-1), num(0), api.ErrDomain},
		{api.Iota, num(full + 1), num(0), api.ErrCells},
		{api.Shape, table, nums(2, 3), 0},
		{api.Tally, table, num(2), 0},
		{api.Ravel, table, nums(1, 2, 3, 4, 5, 6), 0},
		{api.RevF, table, of([]int{2, 3}, 4, 5, 6, 1, 2, 3), 0},
		{api.RevL, table, of([]int{2, 3}, 3, 2, 1, 6, 5, 4), 0},
		{api.Flip, table, of([]int{3, 2}, 1, 4, 2, 5, 3, 6), 0},
		{api.Up, nums(3, 1, 2, 1), nums(1, 3, 2, 0), 0},
		{api.Up, num(2), num(0), api.ErrRank},
		{api.Down, nums(3, 1, 2, 1), nums(0, 2, 1, 3), 0},
		{api.Down, list(box(num(1))), num(0), api.ErrDomain},
		{api.Uniq, nums(3, 1, 2, 1), nums(3, 1, 2), 0},
		{api.Encl, nums(1, 2), atom(box(nums(1, 2))), 0},
		{api.Encl, boxes(api.MaxDeep, num(1)), num(0), api.ErrDeep},
		{api.Disc, atom(box(nums(1, 2))), nums(1, 2), 0},
		{api.Disc, list(box(num(1))), num(0), api.ErrRank},
		{api.First, table, nums(1, 2, 3), 0},
		{api.First, nums(), num(0), api.ErrIndex},
		{api.List, table, of([]int{1, 2, 3}, 1, 2, 3, 4, 5, 6), 0},
		{api.Recip, num(1), num(0), api.ErrNonce},
		{api.Recip, text("ab"), num(0), api.ErrNonce},
	}
}

// twoCase is a primitive of two arguments, and what comes of it.
type twoCase struct {
	op   int
	x, y api.Arr
	want api.Arr
	err  api.Errno
}

// cellwiseCases are the primitives of two arguments that go cell by cell, and Div.
func cellwiseCases() []twoCase {
	a, b := nums(1, 2, 3), nums(3, 2, 1)
	return []twoCase{
		{api.Add, a, b, nums(4, 4, 4), 0},
		{api.Add, num(math.MaxInt64), num(1), num(0), api.ErrOverflow},
		{api.Add, a, nums(1, 2), num(0), api.ErrLength},
		{api.Sub, a, b, nums(-2, 0, 2), 0},
		{api.Mul, a, b, nums(3, 4, 3), 0},
		{api.Min, a, b, nums(1, 2, 1), 0},
		{api.Max, a, b, nums(3, 2, 3), 0},
		{api.Res, a, nums(7, 7, 7), nums(0, 1, 1), 0},
		{api.Eq, a, b, nums(0, 1, 0), 0},
		{api.Ne, a, b, nums(1, 0, 1), 0},
		{api.Lt, a, b, nums(1, 0, 0), 0},
		{api.Gt, a, b, nums(0, 0, 1), 0},
		{api.Le, a, b, nums(1, 1, 0), 0},
		{api.Ge, a, b, nums(0, 1, 1), 0},
		{api.Ge, a, of([]int{1, 3}, 1, 2, 3), num(0), api.ErrRank},
		{api.Ge, a, text("abc"), num(0), api.ErrDomain},
		{api.Div, a, b, num(0), api.ErrNonce},
		{api.Div, a, text("ab"), num(0), api.ErrNonce},
	}
}

// layingCases are the primitives of two arguments that lay cells anew, or seek them.
func layingCases() []twoCase {
	a, table := nums(1, 2, 3), of([]int{2, 3}, 1, 2, 3, 4, 5, 6)
	return []twoCase{
		{api.Reshape, nums(2, 2), a, of([]int{2, 2}, 1, 2, 3, 1), 0},
		{api.Reshape, num(2), nums(), num(0), api.ErrLength},
		{api.Take, num(-5), a, nums(0, 0, 1, 2, 3), 0},
		{api.Take, a, a, num(0), api.ErrRank},
		{api.Drop, num(2), a, nums(3), 0},
		{api.RotF, num(1), table, of([]int{2, 3}, 4, 5, 6, 1, 2, 3), 0},
		{api.RotL, num(1), table, of([]int{2, 3}, 2, 3, 1, 5, 6, 4), 0},
		{api.CatF, a, table, of([]int{3, 3}, 1, 2, 3, 1, 2, 3, 4, 5, 6), 0},
		{api.CatL, nums(8, 9), table, of([]int{2, 4}, 8, 1, 2, 3, 9, 4, 5, 6), 0},
		{api.IndexOf, nums(3, 1, 2, 1), nums(1, 9), nums(1, 4), 0},
		{api.IndexOf, num(3), nums(1, 9), num(0), api.ErrRank},
		{api.Member, nums(1, 9), nums(3, 1, 2, 1), nums(1, 0), 0},
		{api.RepF, nums(2, 0), table, of([]int{2, 3}, 1, 2, 3, 1, 2, 3), 0},
		{api.RepL, nums(0, 2, 0), table, of([]int{2, 2}, 2, 2, 5, 5), 0},
		{api.RepL, nums(0, 2), table, num(0), api.ErrLength},
		{api.From, nums(2, 0), a, nums(3, 1), 0},
		{api.From, num(3), a, num(0), api.ErrIndex},
		{api.At, a, nums(2, 0), nums(3, 1), 0},
		{api.At, a, num(3), num(0), api.ErrIndex},
	}
}

// twoCases are every primitive of two arguments.
func twoCases() []twoCase { return append(cellwiseCases(), layingCases()...) }

// 11.1: each primitive by its number, written out.
func TestPrimitives(t *testing.T) {
	seenOne, seenTwo := map[int]int{}, map[int]int{}
	for _, c := range oneCases() {
		seenOne[c.op]++
		got, e := run.One(c.op, c.x)
		expect(t, "One "+strconv.Itoa(c.op), got, e, c.want, c.err)
	}
	for _, c := range twoCases() {
		seenTwo[c.op]++
		got, e := run.Two(c.op, c.x, c.y)
		expect(t, "Two "+strconv.Itoa(c.op), got, e, c.want, c.err)
	}
	if len(seenOne) != 19 || len(seenTwo) != 12+14 {
		t.Errorf("cases for %d and %d primitives", len(seenOne), len(seenTwo))
	}
}

// anyOps are numbers of primitives, about all rows' ends, and of none.
func anyOps() []int {
	out := []int{least, least + 1, least + api.Neg, math.MinInt32, -1 << 16, 1 << 16, 1<<32 + api.Neg, 1<<32 + api.Reshape, 1<<32 + api.Add, math.MaxInt32, most - 1, most}
	for op := -70; op <= 130; op++ {
		out = append(out, op)
	}
	return out
}

// anyArrays are arrays that may be, and ones that may not, with each of arr.Check's errors.
func anyArrays() []api.Arr {
	return []api.Arr{
		num(0), num(1), num(-1), num(3), num(math.MinInt64), nums(), nums(1), nums(0, 1), nums(2, 0), nums(1, 2, 3), atom(sign(97)), text("abc"), text(""),
		of([]int{2, 3}, 1, 2, 3, 4, 5, 6), with([]int{0, 3}), with([]int{3, 0}), of([]int{1, 1, 1, 1, 1, 1, 1, 2}, 1, 2),
		atom(box(nums(1, 2))), list(box(nums(1, 2)), number(1)), boxes(api.MaxDeep, num(1)), list(number(1), sign(97)),
		{}, {Cells: nums(1, 2).Cells}, with([]int{2}, number(1)), with([]int{-1}), with(make([]int, 9)), with([]int{full + 1}), with([]int{0, full + 1}),
		boxes(api.MaxDeep+1, num(1)), atom(api.Cell{Kind: 3}), atom(api.Cell{Kind: api.CBox}), atom(sign(-1)), list(number(1), sign(0xd800)),
	}
}

// placeOne is which layer's function a number is, of one argument: said by a list of each.
func placeOne(op int) func(op int, x api.Arr) (api.Arr, api.Errno) {
	switch {
	case slices.Contains([]int{1, 2, 3, 4, 19}, op):
		return atomic.Mo
	case slices.Contains([]int{12, 13, 14}, op):
		return seek.Mo
	}
	return layout.Mo
}

// placeTwo is likewise of two arguments.
func placeTwo(op int) func(op int, x, y api.Arr) (api.Arr, api.Errno) {
	switch {
	case op == 41:
		return func(_ int, x, y api.Arr) (api.Arr, api.Errno) { return layout.Reshape(x, y) }
	case slices.Contains([]int{48, 49}, op):
		return seek.Dy
	case slices.Contains([]int{42, 43, 44, 45, 46, 47, 50, 51, 52, 53}, op):
		return pick.Dy
	}
	return atomic.Dy
}

// 11.1: One and Two are the layers' functions, whatever the number and the arrays.
func TestPlaces(t *testing.T) {
	arrays := anyArrays()
	for _, op := range anyOps() {
		for _, x := range arrays {
			want, wantErr := placeOne(op)(op, x)
			got, e := run.One(op, x)
			expect(t, "One "+strconv.Itoa(op), got, e, want, wantErr)
			for _, y := range arrays {
				want, wantErr := placeTwo(op)(op, x, y)
				got, e := run.Two(op, x, y)
				expect(t, "Two "+strconv.Itoa(op), got, e, want, wantErr)
			}
		}
	}
}

// 11.1: a number that names no function of so many arguments is ErrArg, behind arr.Check's error of the arrays.
func TestNoPrimitive(t *testing.T) {
	wrong, wrongErr := with(make([]int, 9)), api.ErrRank
	for _, op := range anyOps() {
		if op < api.Neg || op > api.Recip {
			got, e := run.One(op, num(1))
			expect(t, "One "+strconv.Itoa(op), got, e, api.Arr{}, api.ErrArg)
			got, e = run.One(op, wrong)
			expect(t, "One of a wrong one "+strconv.Itoa(op), got, e, api.Arr{}, wrongErr)
		}
		if op < api.Add || op > api.Ge && op < api.Reshape || op > api.Div {
			got, e := run.Two(op, num(1), num(1))
			expect(t, "Two "+strconv.Itoa(op), got, e, api.Arr{}, api.ErrArg)
			got, e = run.Two(op, num(1), wrong)
			expect(t, "Two of a wrong one "+strconv.Itoa(op), got, e, api.Arr{}, wrongErr)
		}
	}
}

// 11.1, P1, R3: arrays stay, and what is answered may be and shares nothing with them.
func TestPrimitivesStay(t *testing.T) {
	x, y := list(box(nums(1, 2)), number(1)), list(box(nums(1, 2)), box(nums(3)))
	for _, a := range []api.Arr{num(1), num(2), nums(1, 1), x, y, atom(box(nums(1, 2)))} {
		for _, b := range []api.Arr{x, y, nums(1, 2), atom(box(nums(1)))} {
			wasA, wasB := copyArr(a), copyArr(b)
			for op := api.Neg; op <= api.Div; op++ {
				for _, try := range []func() (api.Arr, api.Errno){
					func() (api.Arr, api.Errno) { return run.One(op, b) },
					func() (api.Arr, api.Errno) { return run.Two(op, a, b) },
				} {
					got, e := try()
					if e != api.OK {
						continue
					}
					if check := arr.Check(got); check != api.OK {
						t.Errorf("%d: what came may not be: %v", op, check)
					}
					expectOwn(t, strconv.Itoa(op), got, a, b)
					if !alike(a, wasA) || !alike(b, wasB) {
						t.Fatalf("%d: changed", op)
					}
				}
			}
		}
	}
}
