package arr_test

import (
	"math"
	"math/big"
	"math/rand"
	"reflect"
	"slices"
	"testing"

	"triglyph/api"
	"triglyph/arr"
)

const (
	most = math.MaxInt
	last = math.MinInt
)

// number, sign and box are cells that may be.
func number(n int64) api.Cell { return api.Cell{Kind: api.CInt, N: n} }
func sign(n int64) api.Cell   { return api.Cell{Kind: api.CChar, N: n} }
func box(a api.Arr) api.Cell  { return api.Cell{Kind: api.CBox, Box: []api.Arr{a}} }

// atom and list are arrays of cells.
func atom(c api.Cell) api.Arr    { return api.Arr{Cells: []api.Cell{c}} }
func list(c ...api.Cell) api.Arr { return api.Arr{Shape: []int{len(c)}, Cells: c} }
func empty(shape ...int) api.Arr { return api.Arr{Shape: shape} }
func zeros(shape ...int) api.Arr {
	return api.Arr{Shape: shape, Cells: make([]api.Cell, product(shape))}
}
func boxed(a api.Arr) api.Arr     { return atom(box(a)) }
func repeat(long, many int) []int { return slices.Repeat([]int{long}, many) }

// nested is an atom within so many boxes.
func nested(many int) api.Arr {
	a := atom(number(7))
	for range many {
		a = boxed(a)
	}
	return a
}

// product is a small shape's.
func product(shape []int) int {
	n := 1
	for _, long := range shape {
		n *= long
	}
	return n
}

// wantSize is 3.1, said again with numbers of any size.
func wantSize(shape []int) (int, api.Errno) {
	if len(shape) > 8 {
		return 0, api.ErrRank
	}
	if slices.ContainsFunc(shape, func(long int) bool { return long < 0 }) {
		return 0, api.ErrArg
	}
	n := big.NewInt(1)
	for _, long := range shape {
		n.Mul(n, big.NewInt(int64(long)))
	}
	if n.Cmp(big.NewInt(16384)) > 0 {
		return 0, api.ErrCells
	}
	return int(n.Int64()), api.OK
}

// sized is a shape with its size, or its error.
type sized struct {
	shape []int
	size  int
	err   api.Errno
}

func sizes() []sized {
	return []sized{
		{nil, 1, api.OK}, {[]int{}, 1, api.OK},
		{[]int{0}, 0, api.OK}, {[]int{1}, 1, api.OK}, {[]int{5}, 5, api.OK}, {[]int{2, 3}, 6, api.OK}, {[]int{2, 3, 4}, 24, api.OK},
		{repeat(1, 8), 1, api.OK}, {repeat(2, 8), 256, api.OK}, {[]int{4, 4, 4, 4, 4, 4, 4, 1}, 16384, api.OK}, {[]int{4, 4, 4, 4, 4, 4, 4, 2}, 0, api.ErrCells},
		// More than 8 axes, whatever they are.
		{repeat(1, 9), 0, api.ErrRank}, {repeat(0, 9), 0, api.ErrRank}, {repeat(-1, 9), 0, api.ErrRank}, {repeat(most, 9), 0, api.ErrRank}, {repeat(1, 100), 0, api.ErrRank},
		// Below 0, first, last, beside 0 and beside what is too long.
		{[]int{-1}, 0, api.ErrArg}, {[]int{last}, 0, api.ErrArg}, {[]int{2, -3}, 0, api.ErrArg}, {[]int{-2, -3}, 0, api.ErrArg}, {[]int{0, -1}, 0, api.ErrArg}, {[]int{-1, 0}, 0, api.ErrArg},
		{[]int{most, -1}, 0, api.ErrArg}, {[]int{-1, most}, 0, api.ErrArg}, {[]int{16384, 2, -1}, 0, api.ErrArg}, {[]int{1, 1, 1, 1, 1, 1, 1, -1}, 0, api.ErrArg},
		// An axis of 0 beside any others.
		{[]int{0, 0}, 0, api.OK}, {[]int{0, 5}, 0, api.OK}, {[]int{5, 0}, 0, api.OK}, {[]int{0, 16385}, 0, api.OK}, {[]int{16385, 0}, 0, api.OK},
		{[]int{most, most, 0}, 0, api.OK}, {[]int{0, most, most}, 0, api.OK}, {[]int{most, 0, most}, 0, api.OK}, {[]int{1 << 32, 1 << 32, 0}, 0, api.OK},
		// Just 2^14, and above.
		{[]int{16384}, 16384, api.OK}, {[]int{16385}, 0, api.ErrCells}, {[]int{128, 128}, 16384, api.OK}, {[]int{128, 129}, 0, api.ErrCells}, {[]int{129, 128}, 0, api.ErrCells},
		{[]int{16384, 1, 1}, 16384, api.OK}, {[]int{1, 16384}, 16384, api.OK}, {[]int{16384, 2}, 0, api.ErrCells}, {[]int{2, 16384}, 0, api.ErrCells}, {[]int{2, 8192}, 16384, api.OK}, {[]int{3, 5461}, 16383, api.OK}, {[]int{3, 5462}, 0, api.ErrCells}, {[]int{5, 3277}, 0, api.ErrCells}, {[]int{5, 29, 113}, 0, api.ErrCells},
		// Products that an int does not hold, and that would go round to 0, or to what is small, or below 0.
		{[]int{1 << 32, 1 << 32}, 0, api.ErrCells}, {[]int{1 << 62, 4}, 0, api.ErrCells}, {[]int{1 << 62, 2}, 0, api.ErrCells}, {[]int{1<<32 + 1, 1 << 32}, 0, api.ErrCells}, {[]int{most, most}, 0, api.ErrCells}, {[]int{most}, 0, api.ErrCells},
		{[]int{1<<63 - 1, 3}, 0, api.ErrCells}, {[]int{1 << 61, 8}, 0, api.ErrCells}, {[]int{8, 1 << 61}, 0, api.ErrCells}, {repeat(256, 8), 0, api.ErrCells}, {repeat(1<<14, 8), 0, api.ErrCells}, {repeat(1<<62, 8), 0, api.ErrCells},
	}
}

// TestSize: 3.1, at its edges.
func TestSize(t *testing.T) {
	for _, s := range sizes() {
		shape := slices.Clone(s.shape)
		if n, e := arr.Size(shape); n != s.size || e != s.err {
			t.Errorf("Size(%v): %d, %v; want %d, %v", s.shape, n, e, s.size, s.err)
		}
		if !slices.Equal(shape, s.shape) {
			t.Errorf("Size(%v) changed it: %v", s.shape, shape)
		}
	}
}

// TestSizeMany: 3.1, against numbers of any size.
func TestSizeMany(t *testing.T) {
	r := rand.New(rand.NewSource(31))
	axes := []int{-1, 0, 1, 1, 1, 1, 2, 2, 3, 4, 16, 127, 128, 129, 8192, 16383, 16384, 16385, 1 << 31, 1 << 32, 1 << 62, most}
	for range 200000 {
		shape := make([]int, r.Intn(10))
		for i := range shape {
			shape[i] = axes[r.Intn(len(axes))]
		}
		n, e := arr.Size(shape)
		if size, err := wantSize(shape); n != size || e != err {
			t.Fatalf("Size(%v): %d, %v; want %d, %v", shape, n, e, size, err)
		}
	}
}

// checked is an array with its error, and how deep it is.
type checked struct {
	name string
	a    api.Arr
	err  api.Errno
	deep int
}

// rightArrays may be.
func rightArrays() []checked {
	eight := nested(8)
	return []checked{
		{"atom", atom(number(0)), 0, 0},
		{"greatest", atom(number(math.MaxInt64)), 0, 0},
		{"least", atom(number(math.MinInt64)), 0, 0},
		{"list of none", list(), 0, 0},
		{"list of none, written", api.Arr{Shape: []int{0}, Cells: []api.Cell{}}, 0, 0},
		{"list of one", list(number(5)), 0, 0},
		{"table", zeros(2, 3), 0, 0},
		{"eight axes", zeros(repeat(2, 8)...), 0, 0},
		{"full", zeros(16384), 0, 0},
		{"full table", zeros(128, 128), 0, 0},
		{"none beside full", empty(0, 16384), 0, 0},
		{"none behind full", empty(16384, 16384, 0), 0, 0},
		{"eight axes of none", empty(repeat(0, 8)...), 0, 0},
		{"signs", list(sign(0), sign(0x61), sign(0xd7ff), sign(0xe000), sign(0xffff), sign(0x10000), sign(0x10ffff)), 0, 0},
		{"mixed", list(number(1), sign(0x61), boxed(list()).Cells[0]), 0, 1},
		{"no arrays, written", atom(api.Cell{N: 3, Box: []api.Arr{}}), 0, 0},
		{"box", boxed(atom(number(1))), 0, 1},
		{"eight boxes", eight, 0, 8},
		{"eight boxes last", list(number(1), box(nested(2)), box(nested(7))), 0, 8},
		{"eight boxes first", list(box(nested(7)), box(nested(2)), number(1)), 0, 8},
	}
}

// wrongArrays may not be.
func wrongArrays() []checked {
	two := []api.Arr{atom(number(1)), atom(number(1))}
	return []checked{
		{"no cell", api.Arr{}, api.ErrArg, 0},
		{"atom of two", api.Arr{Cells: make([]api.Cell, 2)}, api.ErrArg, 0},
		{"one less", api.Arr{Shape: []int{2, 3}, Cells: make([]api.Cell, 5)}, api.ErrArg, 0},
		{"one more", api.Arr{Shape: []int{2, 3}, Cells: make([]api.Cell, 7)}, api.ErrArg, 0},
		{"one where none is", api.Arr{Shape: []int{0}, Cells: make([]api.Cell, 1)}, api.ErrArg, 0},
		{"none where one is", empty(1), api.ErrArg, 0},
		{"nine axes", zeros(repeat(1, 9)...), api.ErrRank, 0},
		{"nine axes below 0", empty(repeat(-1, 9)...), api.ErrRank, 0},
		{"below 0", empty(-1), api.ErrArg, 0},
		{"too many", zeros(16385), api.ErrCells, 0},
		{"too many, of none", empty(128, 129), api.ErrCells, 0},
		{"too long beside none", empty(0, 16385), api.ErrCells, 0},
		{"too long ahead of none", empty(most, 0), api.ErrCells, 0},
		{"too long with a cell", api.Arr{Shape: []int{0, 16385}, Cells: make([]api.Cell, 1)}, api.ErrArg, 0},
		{"too long, wrong cell", api.Arr{Shape: []int{16385}, Cells: []api.Cell{{Kind: 9}}}, api.ErrCells, 0},
		{"kind 3", atom(api.Cell{Kind: 3}), api.ErrArg, 0},
		{"kind -1", atom(api.Cell{Kind: -1}), api.ErrArg, 0},
		{"kind 3 with an array", atom(api.Cell{Kind: 3, Box: two[:1]}), api.ErrArg, 1},
		{"number with an array", atom(api.Cell{Kind: api.CInt, Box: two[:1]}), api.ErrArg, 1},
		{"number with two", atom(api.Cell{Kind: api.CInt, Box: two}), api.ErrArg, 1},
		{"sign with an array", atom(api.Cell{Kind: api.CChar, N: 0x61, Box: two[:1]}), api.ErrArg, 1},
		{"box without", atom(api.Cell{Kind: api.CBox}), api.ErrArg, 0},
		{"box without, written", atom(api.Cell{Kind: api.CBox, Box: two[:0]}), api.ErrArg, 0},
		{"box of two", atom(api.Cell{Kind: api.CBox, Box: two}), api.ErrArg, 1},
		{"box with a number", atom(api.Cell{Kind: api.CBox, N: 1, Box: two[:1]}), api.ErrArg, 1},
		{"sign -1", atom(sign(-1)), api.ErrArg, 0},
		{"sign d800", atom(sign(0xd800)), api.ErrArg, 0},
		{"sign dfff", atom(sign(0xdfff)), api.ErrArg, 0},
		{"sign 110000", atom(sign(0x110000)), api.ErrArg, 0},
		{"sign of 33 bits", atom(sign(1<<32 + 0x61)), api.ErrArg, 0},
		{"sign of 64 bits", atom(sign(math.MinInt64 + 0x61)), api.ErrArg, 0},
		{"wrong sign last", list(number(1), sign(0x61), sign(0xdabc)), api.ErrArg, 0},
		{"nine boxes", nested(9), api.ErrDeep, 9},
		{"ninety boxes", nested(90), api.ErrDeep, 90},
		{"nine boxes last", list(box(nested(7)), box(nested(8))), api.ErrDeep, 9},
		{"rank in a box", boxed(zeros(repeat(1, 9)...)), api.ErrRank, 1},
		{"cells in a box", boxed(empty(16385)), api.ErrCells, 1},
		{"long in a box", boxed(boxed(empty(16385, 0))), api.ErrCells, 2},
		{"first array alone", atom(api.Cell{Kind: api.CBox, Box: []api.Arr{nested(1), nested(5)}}), api.ErrArg, 2},
	}
}

// orderedFaults are arrays with several errors: the first one is told.
func orderedFaults() []checked {
	wrong, tooDeep, tooLong := api.Cell{Kind: 9}, box(nested(8)), box(empty(16385, 0))
	within := func(c api.Cell) api.Arr {
		a := list(c)
		for range 8 {
			a = boxed(a)
		}
		return a
	}
	return []checked{
		{"wrong ahead of deep", list(wrong, tooDeep), api.ErrArg, 9},
		{"deep ahead of wrong", list(tooDeep, wrong), api.ErrDeep, 9},
		{"long ahead of both", list(number(1), tooLong, wrong, tooDeep), api.ErrCells, 9},
		{"deep ahead of long", list(tooDeep, tooLong), api.ErrDeep, 9},
		{"wrong within ahead", list(box(list(wrong)), tooDeep), api.ErrArg, 9},
		{"wrong ninth box", within(box(empty(16385))), api.ErrDeep, 9},
		{"ninth box of none", within(api.Cell{Kind: api.CBox}), api.ErrArg, 8},
		{"ninth box with a number", within(api.Cell{Kind: api.CBox, N: 1, Box: []api.Arr{{}}}), api.ErrArg, 9},
		{"wrong in the eighth", within(wrong), api.ErrArg, 8},
		{"count ahead of cells", api.Arr{Shape: []int{2}, Cells: []api.Cell{tooDeep}}, api.ErrArg, 9},
		{"shape ahead of cells", api.Arr{Shape: []int{16385}, Cells: []api.Cell{tooDeep}}, api.ErrCells, 9},
	}
}

// anyArrays are all of them.
func anyArrays() []checked {
	return slices.Concat(rightArrays(), wrongArrays(), orderedFaults())
}

// TestCheck and the depth beside it: 3.2.
func TestCheck(t *testing.T) {
	for _, c := range anyArrays() {
		before := arr.Copy(c.a)
		if e := arr.Check(c.a); e != c.err {
			t.Errorf("Check, %s: %v; want %v", c.name, e, c.err)
		}
		if n := arr.Deep(c.a); n != c.deep {
			t.Errorf("Deep, %s: %d; want %d", c.name, n, c.deep)
		}
		if !alike(before, c.a) {
			t.Errorf("%s is changed", c.name)
		}
	}
}

// TestCheckSigns: 3.2, of all signs that there are by 2.1.
func TestCheckSigns(t *testing.T) {
	for n := int64(-300); n < 0x110300; n++ {
		want := api.ErrArg
		if n >= 0 && n < 0xd800 || n > 0xdfff && n <= 0x10ffff {
			want = api.OK
		}
		if e := arr.Check(atom(sign(n))); e != want {
			t.Fatalf("Check of sign %x: %v; want %v", n, e, want)
		}
	}
}

// TestDeepMany: Deep of many boxes ends, and so do the others.
func TestDeepMany(t *testing.T) {
	const many = 1 << 15
	a, b := nested(many), nested(many)
	if n := arr.Deep(a); n != many {
		t.Errorf("Deep: %d; want %d", n, many)
	}
	if arr.Cmp(a, b) != 0 || !arr.Same(a, b) || arr.Check(a) != api.ErrDeep {
		t.Error("many boxes")
	}
	if c := arr.Copy(a); arr.Deep(c) != many {
		t.Errorf("Deep of the copy: %d", arr.Deep(c))
	}
}

// alike: the same fields all the way down; nil and nothing are alike.
func alike(a, b api.Arr) bool {
	return slices.Equal(a.Shape, b.Shape) && slices.EqualFunc(a.Cells, b.Cells, func(x, y api.Cell) bool {
		return x.Kind == y.Kind && x.N == y.N && slices.EqualFunc(x.Box, y.Box, alike)
	})
}

// risingCells stand in order: by Kind, by N, by how many arrays or the first of them.
func risingCells() [][]api.Cell {
	one, two := atom(number(1)), atom(number(2))
	with := func(kind int, n int64, box ...api.Arr) api.Cell { return api.Cell{Kind: kind, N: n, Box: box} }
	// Each row's cells are the same as each other, and stand ahead of the next row's.
	return [][]api.Cell{
		{with(-1, 9, two)},
		{with(0, math.MinInt64)},
		{with(0, -1)},
		{with(0, 0), {N: 0, Box: []api.Arr{}}},
		// Ahead of those with something in Box stand those without.
		{with(0, 1)},
		{with(0, 1, one), with(0, 1, one, two), with(0, 1, one, one, one)},
		{with(0, 1, two), with(0, 1, two, one)},
		{with(0, math.MaxInt64)},
		{with(1, math.MinInt64)},
		{with(1, 0x61)},
		{with(1, 0x62)},
		{with(2, -1, one)},
		{with(2, 0)},
		{with(2, 0, api.Arr{}), with(2, 0, api.Arr{Shape: []int{}, Cells: []api.Cell{}}, two)},
		{with(2, 0, one), box(one)},
		{with(2, 0, two)},
		{with(2, 0, boxed(one))},
		{with(2, 0, boxed(two))},
		{with(2, 0, list())},
		{with(2, 0, list(number(1)))},
		{with(2, 1)},
		{with(3, 0)},
		{with(math.MaxInt, 0)},
	}
}

// TestCell: 3.3, of cells of all kinds, those that may not be too.
func TestCell(t *testing.T) {
	rows := risingCells()
	for i, row := range rows {
		for j, other := range rows {
			for _, a := range row {
				for _, b := range other {
					if got, want := arr.Cell(a, b), order(i, j); got != want {
						t.Errorf("Cell(%v, %v): %d; want %d", a, b, got, want)
					}
					if got, want := arr.Cmp(atom(a), atom(b)), order(i, j); got != want {
						t.Errorf("Cmp of atoms %v, %v: %d; want %d", a, b, got, want)
					}
				}
			}
		}
	}
}

func order(i, j int) int {
	switch {
	case i < j:
		return -1
	case i > j:
		return 1
	}
	return 0
}

// risingArrays stand in order, those that may not be among them.
func risingArrays() []api.Arr {
	of := func(shape []int, n ...int64) api.Arr {
		a := api.Arr{Shape: shape}
		for _, n := range n {
			a.Cells = append(a.Cells, number(n))
		}
		return a
	}
	return []api.Arr{
		// No axes, whatever the cells: fewer cells first, if those are the same.
		{}, of(nil, math.MinInt64), of(nil, 5), of(nil, 5, 0), of(nil, 5, 1), of(nil, 6), of(nil, math.MaxInt64), atom(sign(0)), boxed(nested(3)),
		// One axis, by its length ahead of its cells.
		of([]int{last}), of([]int{-1}), of([]int{0}), of([]int{0}, 1), of([]int{1}), of([]int{1}, -3), of([]int{1}, 5), list(sign(5)), list(box(list())),
		of([]int{2}, -9, -9), of([]int{2}, 1, 2), of([]int{2}, 1, 3), of([]int{2}, 2, 0), of([]int{3}, -5, -5, -5), of([]int{most}),
		// Two axes, the first ahead of the second.
		of([]int{0, 9}), of([]int{1, 0}), of([]int{1, 2}, 0, 0), of([]int{1, 3}, -1, -1, -1), of([]int{2, 1}, -7, -7), of([]int{2, 2}, 1, 2, 3, 4), of([]int{2, 2}, 1, 2, 3, 5), of([]int{2, 2}, 1, 3, 3, 4),
		// Three axes, and nine.
		empty(0, 0, 0), empty(0, 0, 1), empty(0, 1, 0), of([]int{1, 1, 1}, -1), empty(repeat(0, 9)...),
	}
}

// TestCmp: 3.3, of arrays in order.
func TestCmp(t *testing.T) {
	rising := risingArrays()
	for i, a := range rising {
		for j, b := range rising {
			if got, want := arr.Cmp(a, b), order(i, j); got != want {
				t.Errorf("Cmp(%v, %v): %d; want %d", a, b, got, want)
			}
			if got := arr.Same(a, b); got != (i == j) {
				t.Errorf("Same(%v, %v): %v", a, b, got)
			}
		}
		if !arr.Same(a, arr.Copy(a)) {
			t.Errorf("%v and its copy are not the same", a)
		}
	}
}

// randomArray is one that may be, of few different parts, so that many are nearly the same.
func randomArray(r *rand.Rand, boxes int) api.Arr {
	shape := make([]int, r.Intn(4))
	for i := range shape {
		shape[i] = r.Intn(3)
	}
	a := zeros(shape...)
	for i := range a.Cells {
		switch kind := r.Intn(6); {
		case kind < 3:
			a.Cells[i] = number(int64(r.Intn(3) - 1))
		case kind < 5 || boxes == 0:
			a.Cells[i] = sign(int64(r.Intn(2)))
		default:
			a.Cells[i] = box(randomArray(r, boxes-1))
		}
	}
	return a
}

// flat is an array that may be as numbers, whose order is the array's.
func flat(a api.Arr) []int64 {
	out := []int64{int64(len(a.Shape))}
	for _, long := range a.Shape {
		out = append(out, int64(long))
	}
	for _, c := range a.Cells {
		out = append(out, int64(c.Kind), c.N)
		for _, within := range c.Box {
			out = append(out, flat(within)...)
		}
	}
	return out
}

// TestOrder: 3.6, of any three arrays that may be, and 3.3 by a list of numbers for each.
func TestOrder(t *testing.T) {
	r := rand.New(rand.NewSource(36))
	var all []api.Arr
	for _, c := range rightArrays() {
		if len(c.a.Cells) < 300 {
			all = append(all, c.a)
		}
	}
	for len(all) < 140 {
		all = append(all, randomArray(r, 3))
	}
	for _, a := range all {
		if e := arr.Check(a); e != api.OK {
			t.Fatalf("%v: %v", a, e)
		}
		for _, b := range all {
			c := arr.Cmp(a, b)
			if c != slices.Compare(flat(a), flat(b)) || c != -arr.Cmp(b, a) || arr.Same(a, b) != (c == 0) || (c == 0) != alike(a, b) {
				t.Fatalf("Cmp(%v, %v): %d", a, b, c)
			}
			if c <= 0 {
				checkThird(t, a, b, all)
			}
		}
	}
}

// checkThird: what stands behind b stands behind a.
func checkThird(t *testing.T, a, b api.Arr, all []api.Arr) {
	for _, c := range all {
		if arr.Cmp(b, c) <= 0 && arr.Cmp(a, c) > 0 {
			t.Fatalf("%v, %v, %v: no order", a, b, c)
		}
	}
}

// spoil changes all that an array holds, and what lies behind its lists.
func spoil(a api.Arr) {
	for i := range a.Cells[:cap(a.Cells)] {
		c := &a.Cells[:cap(a.Cells)][i]
		for j := range c.Box {
			spoil(c.Box[j])
			c.Box[j] = api.Arr{Shape: []int{99}}
		}
		c.Kind, c.N, c.Box = 77, 77, nil
	}
	for i := range a.Shape[:cap(a.Shape)] {
		a.Shape[:cap(a.Shape)][i] = 77
	}
}

// TestCopy: 3.4 and 3.6: alike, and nothing shared, either way.
func TestCopy(t *testing.T) {
	r := rand.New(rand.NewSource(34))
	makers := []func() api.Arr{
		func() api.Arr { return nested(8) },
		func() api.Arr { return list(number(1), sign(2), box(list(box(list(number(3), number(4)))))) },
		func() api.Arr { return zeros(128, 128) },
		func() api.Arr { return empty(0, 7) },
	}
	for range 300 {
		seed := r.Int63()
		makers = append(makers, func() api.Arr { return randomArray(rand.New(rand.NewSource(seed)), 4) })
	}
	for _, made := range makers {
		a, want := made(), made()
		c := arr.Copy(a)
		second := arr.Copy(a)
		if !alike(c, want) || arr.Check(c) != api.OK {
			t.Fatalf("Copy(%v): %v", want, c)
		}
		spoil(a)
		if !alike(c, want) {
			t.Fatalf("Copy(%v) shares with what was copied: %v", want, c)
		}
		spoil(c)
		if !alike(second, want) {
			t.Fatalf("two copies of %v share: %v", want, second)
		}
	}
}

// TestCopyShared: where one array lies in two boxes, its copies share nothing either.
func TestCopyShared(t *testing.T) {
	one := list(number(1), number(2))
	c := arr.Copy(list(box(one), box(one)))
	spoil(c.Cells[0].Box[0])
	if !alike(c.Cells[1].Box[0], list(number(1), number(2))) || !alike(one, list(number(1), number(2))) {
		t.Errorf("shared: %v", c)
	}
}

// TestCopyBehind: what lies behind the lists' lengths is not copied.
func TestCopyBehind(t *testing.T) {
	shape := []int{1, 5, 6}
	cells := []api.Cell{number(1), number(2), number(3)}
	c := arr.Copy(api.Arr{Shape: shape[:1], Cells: cells[:1]})
	if !alike(c, list(number(1))) || cap(c.Shape) > 1 && c.Shape[:2][1] == 5 || cap(c.Cells) > 1 && c.Cells[:2][1].N == 2 {
		t.Errorf("Copy: %v", c)
	}
}

// TestAnyTaken: P1: a call that takes any array ends, also of what may not be, and leaves it as it is.
func TestAnyTaken(t *testing.T) {
	all := anyArrays()
	for _, x := range all {
		a := arr.Copy(x.a)
		if !alike(a, x.a) {
			t.Errorf("Copy of %s: %v", x.name, a)
		}
		for _, y := range all {
			if c := arr.Cmp(x.a, y.a); c != -arr.Cmp(y.a, x.a) || (c == 0) != arr.Same(x.a, y.a) {
				t.Errorf("Cmp of %s, %s: %d", x.name, y.name, c)
			}
		}
		if !alike(a, x.a) {
			t.Errorf("%s is changed", x.name)
		}
	}
}

// TestMade: 3.4: Atom, Nums and Text.
func TestMade(t *testing.T) {
	for _, n := range []int64{0, 1, -1, 0x61, math.MaxInt64, math.MinInt64} {
		if a := arr.Atom(n); !alike(a, atom(number(n))) {
			t.Errorf("Atom(%d): %v", n, a)
		}
		if a := arr.Nums([]int64{n}); !alike(a, list(number(n))) {
			t.Errorf("Nums(%d): %v", n, a)
		}
		// Whether there is such a sign is not looked at.
		if a := arr.Text([]int64{n}); !alike(a, atom(sign(n))) {
			t.Errorf("Text(%d): %v", n, a)
		}
	}
	for _, l := range [][]int64{nil, {}, {1, 2}, {3, 1, 2, -4}, {-1, 0xd800, 1 << 40}, make([]int64, 20000)} {
		nums, signs := list(), list()
		for _, n := range l {
			nums.Cells, signs.Cells = append(nums.Cells, number(n)), append(signs.Cells, sign(n))
		}
		nums.Shape, signs.Shape = []int{len(l)}, []int{len(l)}
		before := slices.Clone(l)
		if a := arr.Nums(l); !alike(a, nums) {
			t.Errorf("Nums(%v): %v", l, a)
		}
		if a := arr.Text(l); !alike(a, signs) {
			t.Errorf("Text(%v): %v", l, a)
		}
		if !slices.Equal(l, before) {
			t.Errorf("%v is changed: %v", before, l)
		}
	}
}

// placed is a shape with places in it, and which cell that is, or the error.
type placed struct {
	shape, at []int
	n         int
	err       api.Errno
}

func placings() []placed {
	return []placed{
		{nil, nil, 0, api.OK}, {[]int{5}, []int{0}, 0, api.OK}, {[]int{5}, []int{4}, 4, api.OK}, {[]int{2, 3}, []int{1, 2}, 5, api.OK}, {[]int{2, 3}, []int{1, 0}, 3, api.OK}, {[]int{2, 3, 4}, []int{1, 2, 3}, 23, api.OK}, {repeat(2, 8), repeat(1, 8), 255, api.OK}, {[]int{128, 128}, []int{127, 127}, 16383, api.OK},
		// At and beyond each end.
		{[]int{5}, []int{5}, 0, api.ErrIndex}, {[]int{5}, []int{-1}, 0, api.ErrIndex}, {[]int{2, 3}, []int{0, 3}, 0, api.ErrIndex}, {[]int{2, 3}, []int{2, 0}, 0, api.ErrIndex}, {[]int{2, 3}, []int{1, -1}, 0, api.ErrIndex}, {[]int{2, 3}, []int{-1, 2}, 0, api.ErrIndex}, {[]int{2, 3}, []int{1, 3}, 0, api.ErrIndex},
		{[]int{2, 3}, []int{most, 0}, 0, api.ErrIndex}, {[]int{2, 3}, []int{0, last}, 0, api.ErrIndex}, {[]int{2, 3}, []int{last, most}, 0, api.ErrIndex},
		// Nothing stands along an axis of 0.
		{[]int{0}, []int{0}, 0, api.ErrIndex}, {[]int{3, 0}, []int{2, 0}, 0, api.ErrIndex}, {[]int{0, 3}, []int{0, 2}, 0, api.ErrIndex}, {[]int{most, most, 0}, []int{most - 1, most - 1, 0}, 0, api.ErrIndex},
		// Too few and too many, ahead of what they are.
		{nil, []int{0}, 0, api.ErrRank}, {[]int{5}, nil, 0, api.ErrRank}, {[]int{2, 3}, []int{1}, 0, api.ErrRank}, {[]int{2, 3}, []int{1, 2, 0}, 0, api.ErrRank}, {[]int{2, 3}, []int{7}, 0, api.ErrRank}, {[]int{2, 3}, []int{-1, -1, -1}, 0, api.ErrRank}, {[]int{0}, nil, 0, api.ErrRank},
		// The shape's error is ahead of both.
		{repeat(1, 9), repeat(0, 9), 0, api.ErrRank}, {[]int{-1}, []int{0}, 0, api.ErrArg}, {[]int{-1}, nil, 0, api.ErrArg}, {[]int{16385}, []int{0}, 0, api.ErrCells}, {[]int{16385}, nil, 0, api.ErrCells}, {[]int{16385}, []int{-1}, 0, api.ErrCells},
	}
}

// TestPlace: 3.5, at its edges.
func TestPlace(t *testing.T) {
	for _, p := range placings() {
		shape, at := slices.Clone(p.shape), slices.Clone(p.at)
		if n, e := arr.Place(shape, at); n != p.n || e != p.err {
			t.Errorf("Place(%v, %v): %d, %v; want %d, %v", p.shape, p.at, n, e, p.n, p.err)
		}
		if !slices.Equal(shape, p.shape) || !slices.Equal(at, p.at) {
			t.Errorf("Place(%v, %v) changed them", p.shape, p.at)
		}
	}
}

// TestPlaces: 3.5: no cell there, and the shape's errors ahead of that.
func TestPlaces(t *testing.T) {
	for _, s := range sizes() {
		for _, n := range []int{last, -1, s.size, s.size + 1, 16384, most} {
			want := s.err
			if want == api.OK {
				want = api.ErrIndex
			}
			if at, e := arr.Places(s.shape, n); len(at) != 0 || e != want {
				t.Errorf("Places(%v, %d): %v, %v; want %v", s.shape, n, at, e, want)
			}
		}
		if s.err != api.OK {
			if at, e := arr.Places(s.shape, 0); len(at) != 0 || e != s.err {
				t.Errorf("Places(%v, 0): %v, %v; want %v", s.shape, at, e, s.err)
			}
		}
	}
	at, e := arr.Places([]int{2, 3, 4}, 17)
	if !slices.Equal(at, []int{1, 1, 1}) || e != api.OK {
		t.Errorf("Places of 17 in 2 3 4: %v, %v", at, e)
	}
	if at, e := arr.Places(nil, 0); len(at) != 0 || e != api.OK {
		t.Errorf("Places of 0 in no axes: %v, %v", at, e)
	}
}

// TestThereAndBack: 3.6: each cell of a shape, the last axis fastest, there and back.
func TestThereAndBack(t *testing.T) {
	for _, s := range sizes() {
		if s.err != api.OK {
			continue
		}
		shape := slices.Clone(s.shape)
		at := make([]int, len(shape))
		for n := range s.size {
			if got, e := arr.Place(shape, at); got != n || e != api.OK {
				t.Fatalf("Place(%v, %v): %d, %v; want %d", shape, at, got, e, n)
			}
			back, e := arr.Places(shape, n)
			if !slices.Equal(back, at) || e != api.OK {
				t.Fatalf("Places(%v, %d): %v, %v; want %v", shape, n, back, e, at)
			}
			next(shape, at)
		}
		if !slices.Equal(shape, s.shape) {
			t.Errorf("%v is changed: %v", s.shape, shape)
		}
	}
}

// next goes one cell on, the last axis fastest.
func next(shape, at []int) {
	for i := len(at) - 1; i >= 0; i-- {
		if at[i]++; at[i] < shape[i] {
			return
		}
		at[i] = 0
	}
}

// TestNew: R3: an answer shares nothing with another one, or with what was handed in.
func TestNew(t *testing.T) {
	l := []int64{4, 5}
	made := func() []api.Arr { return []api.Arr{arr.Atom(4), arr.Nums(l), arr.Text(l), arr.Text(l[:1])} }
	first, second := made(), made()
	for i := range first {
		spoil(first[i])
	}
	if !reflect.DeepEqual(second, made()) || !slices.Equal(l, []int64{4, 5}) {
		t.Errorf("shared: %v, %v", second, l)
	}
	shape := []int{2, 3}
	one, _ := arr.Places(shape, 4)
	two, _ := arr.Places(shape, 4)
	one[0], one[1] = 9, 9
	if !slices.Equal(two, []int{1, 1}) || !slices.Equal(shape, []int{2, 3}) {
		t.Errorf("shared: %v, %v", two, shape)
	}
}

// TestExamples: the chapter's.
func TestExamples(t *testing.T) {
	if n, e := arr.Size([]int{2, 3}); n != 6 || e != api.OK {
		t.Errorf("Size: %d, %v", n, e)
	}
	if n, e := arr.Place([]int{2, 3}, []int{1, 2}); n != 5 || e != api.OK {
		t.Errorf("Place: %d, %v", n, e)
	}
	if c := arr.Cmp(arr.Nums([]int64{1, 2}), arr.Atom(9)); c != 1 {
		t.Errorf("Cmp of a list and an atom: %d", c)
	}
}
