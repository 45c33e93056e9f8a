package core_test

import (
	"math"
	"strings"
	"testing"

	"triglyph/api"
	"triglyph/arr"
	"triglyph/core"
)

const (
	least = math.MinInt
	most  = math.MaxInt
	full  = api.MaxCells
)

// number, sign and box are cells that may be.
func number(n int64) api.Cell { return api.Cell{Kind: api.CInt, N: n} }
func sign(n int64) api.Cell   { return api.Cell{Kind: api.CChar, N: n} }
func box(a api.Arr) api.Cell  { return api.Cell{Kind: api.CBox, Box: []api.Arr{a}} }

// atom, list, with and nums are arrays of cells.
func atom(c api.Cell) api.Arr                 { return api.Arr{Cells: []api.Cell{c}} }
func list(c ...api.Cell) api.Arr              { return api.Arr{Shape: []int{len(c)}, Cells: c} }
func with(shape []int, c ...api.Cell) api.Arr { return api.Arr{Shape: shape, Cells: c} }
func nums(l ...int64) api.Arr                 { return arr.Nums(l) }

// anyOps are numbers of primitives, and numbers that name none.
func anyOps() []int {
	l := []int{least, least + api.Add, math.MinInt32, -1 << 16, 1 << 16, 1<<32 + api.Neg, 1<<32 + api.Add, math.MaxInt32, most - api.Ge, most}
	for op := -70; op <= 130; op++ {
		l = append(l, op)
	}
	return l
}

// 10.1: how many bytes a name has.
func TestNameLength(t *testing.T) {
	for n := range 40 {
		for _, s := range []string{strings.Repeat("a", n), strings.Repeat("w", n), "a" + strings.Repeat("9", n)} {
			if got, want := core.Name(s), len(s) >= 1 && len(s) <= 8; got != want {
				t.Errorf("%q: %v", s, got)
			}
		}
	}
	if core.Name(strings.Repeat("a", 1<<20)) {
		t.Error("a great text")
	}
}

// 10.1: every byte, at every place of a name: letters from a to w anywhere, digits behind the first one, nothing else.
func TestNameBytes(t *testing.T) {
	for b := range 256 {
		letter := strings.ContainsRune("abcdefghijklmnopqrstuvw", rune(b))
		digit := strings.ContainsRune("0123456789", rune(b))
		for long := 1; long <= 8; long++ {
			for at := range long {
				s := []byte(strings.Repeat("m", long))
				s[at] = byte(b)
				if got, want := core.Name(string(s)), letter || digit && at > 0; got != want {
					t.Errorf("%q: %v", s, got)
				}
			}
		}
	}
}

// 10.1: names, and texts that are none.
func TestName(t *testing.T) {
	for _, s := range strings.Fields("a w b c0 a1 ab1 a1b w9 abcdefgh a0000000 rqponmlk tuvw v") {
		if !core.Name(s) {
			t.Errorf("%q is a name", s)
		}
	}
	no := []string{"", "x", "y", "z", "ax", "aay", "az9", "A", "W", "aB", "1", "0a", "9", "abcdefghi", "a00000000", " ", "a ", " a", "a b", "a_b", "_", "a.b", "a-", "a\x00", "\x00", "`", "a`", "{", "a:", "a/", "⍵", "ä", "aä", "a\xff", "\xff", "ａ", "a\n"}
	for _, s := range no {
		if core.Name(s) {
			t.Errorf("%q is no name", s)
		}
	}
}

// literalCase is an array, and whether it can be written as it is.
type literalCase struct {
	what string
	a    api.Arr
	want bool
}

// numberCases are literals of numbers, or would be.
func numberCases() []literalCase {
	mixed := list(number(1), sign(97))
	return []literalCase{
		{"an atom", arr.Atom(5), true},
		{"the least number", arr.Atom(math.MinInt64), true},
		{"the greatest number", arr.Atom(math.MaxInt64), true},
		{"numbers that would be no sign", nums(-1, 31, 127, 0xd800, 0x110000), true},
		{"a list of none", nums(), true},
		{"a list of none, nothing being nil", api.Arr{Shape: []int{0}, Cells: []api.Cell{}}, true},
		{"a list of one", nums(5), false},
		{"a list of two", nums(5, 6), true},
		{"a list of three", nums(0, 0, 0), true},
		{"as many numbers as may be", list(make([]api.Cell, full)...), true},
		{"one too many", list(make([]api.Cell, full+1)...), false},
		{"a table", with([]int{2, 2}, nums(1, 2, 3, 4).Cells...), false},
		{"a table of one", with([]int{1, 1}, number(1)), false},
		{"a table of one row", with([]int{1, 2}, nums(1, 2).Cells...), false},
		{"a table of one column", with([]int{2, 1}, nums(1, 2).Cells...), false},
		{"a table of no row", with([]int{0, 2}), false},
		{"a table of no column", with([]int{2, 0}), false},
		{"more axes", with([]int{2, 1, 1}, nums(1, 2).Cells...), false},
		{"eight axes", with([]int{1, 1, 1, 1, 1, 1, 1, 2}, nums(1, 2).Cells...), false},
		{"nine axes", with([]int{1, 1, 1, 1, 1, 1, 1, 1, 2}, nums(1, 2).Cells...), false},
		{"a number ahead of a sign", mixed, false},
		{"a sign ahead of a number", list(sign(97), number(1)), false},
		{"a sign behind many numbers", list(number(1), number(2), number(3), sign(97)), false},
		{"a number between signs", list(sign(97), number(98), sign(99)), false},
	}
}

// signCases are likewise of signs.
func signCases() []literalCase {
	out := []literalCase{
		{"a text of none", api.Arr{Shape: []int{0}}, true},
		{"a text of one", list(sign(97)), false},
		{"a text of two", list(sign(97), sign(98)), true},
		{"a table of signs", with([]int{2, 2}, sign(97), sign(98), sign(99), sign(100)), false},
		{"quotes", list(sign('\''), sign('"'), sign('\\'), sign(' ')), true},
	}
	for n, want := range map[int64]bool{
		math.MinInt64: false, -1: false, 0: false, 1: false, 9: false, 10: false, 13: false, 30: false, 31: false,
		32: true, 33: true, 65: true, 97: true, 125: true, 126: true, 127: false, 128: true, 129: true, 159: true, 160: true, 0x2373: true,
		0xd7ff: true, 0xd800: false, 0xdfff: false, 0xe000: true, 0xfffd: true, 0xffff: true, 0x10000: true, 0x10ffff: true, 0x110000: false,
		1<<32 + 97: false, math.MaxInt64: false,
	} {
		out = append(out,
			literalCase{"a sign", atom(sign(n)), want},
			literalCase{"a sign in front", list(sign(n), sign(97)), want},
			literalCase{"a sign behind", list(sign(97), sign(98), sign(n)), want})
	}
	return out
}

// wrongCases are arrays with boxes, and ones that may not be.
func wrongCases() []literalCase {
	boxed := box(nums(1, 2))
	return []literalCase{
		{"a box", atom(boxed), false},
		{"a box of an atom", atom(box(arr.Atom(1))), false},
		{"a list of boxes", list(boxed, boxed), false},
		{"a list of one box", list(boxed), false},
		{"a box ahead of numbers", list(boxed, number(1), number(2)), false},
		{"a box behind numbers", list(number(1), number(2), boxed), false},
		{"a box behind signs", list(sign(97), sign(98), boxed), false},
		{"an empty list in a box", atom(box(nums())), false},
		{"nothing at all", api.Arr{}, false},
		{"nothing at all, and not nil", api.Arr{Shape: []int{}, Cells: []api.Cell{}}, false},
		{"an atom of two", api.Arr{Cells: nums(1, 2).Cells}, false},
		{"an axis without its cells", with([]int{2}), false},
		{"cells where the axis says none", with([]int{0}, number(1), number(2)), false},
		{"fewer cells than the axis says", with([]int{3}, number(1), number(2)), false},
		{"more cells than the axis says", with([]int{2}, number(1), number(2), number(3)), false},
		{"an axis below 0", with([]int{-1}), false},
		{"an axis below 0, with a cell", with([]int{-1}, number(1)), false},
		{"an axis too long", with([]int{most}), false},
		{"a kind below all", list(number(1), api.Cell{Kind: -1}), false},
		{"a kind above all", atom(api.Cell{Kind: 3}), false},
		{"two of a kind above all", list(api.Cell{Kind: 3}, api.Cell{Kind: 3}), false},
		{"a number with a box", list(number(1), api.Cell{Kind: api.CInt, N: 1, Box: []api.Arr{nums()}}), false},
		{"a sign with a box", atom(api.Cell{Kind: api.CChar, N: 97, Box: []api.Arr{nums()}}), false},
		{"a box without an array", atom(api.Cell{Kind: api.CBox}), false},
		{"a box with a number", atom(api.Cell{Kind: api.CBox, N: 97, Box: []api.Arr{nums()}}), false},
	}
}

// literalCases are all of them.
func literalCases() []literalCase {
	return append(append(numberCases(), signCases()...), wrongCases()...)
}

// 10.2: which arrays can be written as they are.
func TestLiteral(t *testing.T) {
	for _, c := range literalCases() {
		for range 2 {
			if got := core.Literal(c.a); got != c.want {
				t.Errorf("%s: %v of %v", c.what, got, c.a.Shape)
			}
		}
		if e := arr.Check(c.a); c.want && e != api.OK {
			t.Errorf("%s: the test's own array may not be: %v", c.what, e)
		}
	}
}

// 10.2, P1: boxes that share what lies in them are not gone into, cell by cell.
func TestLiteralShared(t *testing.T) {
	a := nums(1, 2)
	for range api.MaxDeep {
		c := make([]api.Cell, full)
		for i := range c {
			c[i] = box(a)
		}
		a = list(c...)
	}
	if core.Literal(a) || core.Check(api.Node{Kind: api.NLit, Lit: a}) != api.ErrArg {
		t.Error("boxes are no literal")
	}
}

// Words: Scalar holds from Add to Ge.
func TestScalar(t *testing.T) {
	is := map[int]int{api.Add: 1, api.Sub: 1, api.Mul: 1, api.Min: 1, api.Max: 1, api.Res: 1, api.Eq: 1, api.Ne: 1, api.Lt: 1, api.Gt: 1, api.Le: 1, api.Ge: 1}
	for _, op := range anyOps() {
		if got, want := core.Scalar(op), is[op] == 1; got != want {
			t.Errorf("%d: %v", op, got)
		}
	}
}

// R3: what is handed to Literal stays, and what lies behind a list's length plays no part.
func TestLiteralStays(t *testing.T) {
	for _, c := range literalCases() {
		if len(c.a.Cells) > 100 {
			continue
		}
		was := copyArr(c.a)
		core.Literal(c.a)
		if !alikeArr(c.a, was) {
			t.Errorf("%s: changed", c.what)
		}
		longer := api.Arr{Shape: append(copyArr(c.a).Shape, 7, 8)[:len(c.a.Shape)], Cells: append(copyArr(c.a).Cells, box(nums(1)), sign(3))[:len(c.a.Cells)]}
		if got := core.Literal(longer); got != c.want {
			t.Errorf("%s: %v, with something behind the lists", c.what, got)
		}
		if !alikeArr(longer, was) || !alikeCell(longer.Cells[:len(longer.Cells)+1][len(longer.Cells)], box(nums(1))) {
			t.Errorf("%s: what lies behind was changed", c.what)
		}
	}
}

// TestExamples: the chapter's own.
func TestExamples(t *testing.T) {
	n := mo(prim(api.Neg), lit(5))
	if e := core.Check(n); e != api.OK || core.Size(n) != 3 {
		t.Errorf("Neg of the literal 5: %v, %d nodes", e, core.Size(n))
	}
	if e := core.Check(left()); e != api.ErrArg {
		t.Errorf("NLeft alone: %v", e)
	}
	if !core.Name("ab1") || core.Name("x") {
		t.Error("ab1 is a name, x is none")
	}
}
