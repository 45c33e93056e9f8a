package spell_test

import (
	"fmt"
	"math"
	"math/big"
	"math/rand"
	"strings"
	"testing"

	"triglyph/api"
	"triglyph/arr"
	"triglyph/spell"
)

// TestExamples: the chapter's own.
func TestExamples(t *testing.T) {
	if got := told(spell.Literal(arr.Nums([]int64{1, -2}), aplGrammar())); got != "1 ¯2" {
		t.Error(got)
	}
	if got := written(jGrammar(), mo(verb("i."), num(3))); got != "i. 3" {
		t.Error(got)
	}
	if got := spell.Number(-5, "_"); got != "_5" {
		t.Error(got)
	}
}

// TestNumber: 16.1, digits without a nought ahead, and minus below 0 alone.
func TestNumber(t *testing.T) {
	for _, minus := range []string{"-", "_", "¯", "", "minus ", "0", "\xff"} {
		for _, c := range []struct {
			n      int64
			digits string
		}{
			{0, "0"}, {1, "1"}, {9, "9"}, {10, "10"}, {99, "99"}, {100, "100"}, {101, "101"}, {4096, "4096"},
			{1234567890, "1234567890"}, {1000000000000000000, "1000000000000000000"},
			{math.MaxInt32, "2147483647"}, {math.MaxInt32 + 1, "2147483648"},
			{math.MaxInt64, "9223372036854775807"}, {math.MaxInt64 - 1, "9223372036854775806"},
		} {
			if got := spell.Number(c.n, minus); got != c.digits {
				t.Errorf("%d: %q", c.n, got)
			}
			if got := spell.Number(-c.n, minus); c.n != 0 && got != minus+c.digits {
				t.Errorf("%d: %q", -c.n, got)
			}
		}
		if got := spell.Number(math.MinInt64, minus); got != minus+"9223372036854775808" {
			t.Errorf("the least number: %q", got)
		}
	}
	r := rand.New(rand.NewSource(161))
	for range 20000 {
		n := int64(r.Uint64()) >> r.Intn(64)
		want := new(big.Int).Abs(big.NewInt(n)).String()
		if n < 0 {
			want = "¯" + want
		}
		if got := spell.Number(n, "¯"); got != want {
			t.Fatalf("%d: %q", n, got)
		}
	}
}

// TestNumbers: 16.1, numbers by the grammar's Minus, with one blank between.
func TestNumbers(t *testing.T) {
	for _, c := range []struct {
		a    api.Arr
		want string
	}{
		{arr.Atom(0), "0"},
		{arr.Atom(7), "7"},
		{arr.Atom(-7), "M7"},
		{arr.Atom(math.MinInt64), "M9223372036854775808"},
		{arr.Atom(math.MaxInt64), "9223372036854775807"},
		{arr.Nums([]int64{1, 2}), "1 2"},
		{arr.Nums([]int64{0, 0, 0}), "0 0 0"},
		{arr.Nums([]int64{-1, 2, -3}), "M1 2 M3"},
		{arr.Nums([]int64{math.MinInt64, math.MaxInt64}), "M9223372036854775808 9223372036854775807"},
	} {
		for _, g := range someGrammars() {
			want := strings.ReplaceAll(c.want, "M", g.Minus)
			if got := told(spell.Literal(c.a, g)); got != want {
				t.Errorf("%v: %q; want %q", c.a, got, want)
			}
			if got := written(g, api.Node{Kind: api.NLit, Lit: c.a}); got != want {
				t.Errorf("%v written: %q; want %q", c.a, got, want)
			}
		}
	}
}

// TestTexts: 16.1, with ' each ' is twice; with any other Quote each " and \ has a \ ahead.
func TestTexts(t *testing.T) {
	for _, c := range [][3]string{
		{"", "", ""},
		{"a", "a", "a"},
		{"ab", "ab", "ab"},
		{"  ", "  ", "  "},
		{"'", "''", "'"},
		{"''", "''''", "''"},
		{"it's", "it''s", "it's"},
		{`"`, `"`, `\"`},
		{`\`, `\`, `\\`},
		{`\"`, `\"`, `\\\"`},
		{`"'\`, `"''\`, `\"'\\`},
		{`a\nb"c'`, `a\nb"c''`, `a\\nb\"c'`},
		{"⍳ö\U0010ffff\u0080", "⍳ö\U0010ffff\u0080", "⍳ö\U0010ffff\u0080"},
		{"~!", "~!", "~!"},
	} {
		for _, quote := range []string{"'", `"`, "", "''", "|", "⍳", `\`} {
			want := quote + c[2] + quote
			if quote == "'" {
				want = quote + c[1] + quote
			}
			g := api.Grammar{Quote: quote, Minus: "-"}
			if got := told(spell.Literal(signs(c[0]), g)); got != want {
				t.Errorf("%q, quote %q: %q; want %q", c[0], quote, got, want)
			}
			if got := written(g, text(c[0])); got != want {
				t.Errorf("%q, quote %q, written: %q; want %q", c[0], quote, got, want)
			}
		}
	}
}

// TestNoCells: 16.1, a list without cells is a text, be it made of numbers or of signs.
func TestNoCells(t *testing.T) {
	for _, a := range []api.Arr{arr.Nums(nil), arr.Text(nil), {Shape: []int{0}}, {Shape: []int{0}, Cells: []api.Cell{}}, {Shape: []int{0}, Cells: []api.Cell{{Kind: api.CBox}}[:0]}} {
		for _, g := range someGrammars() {
			if got := told(spell.Literal(a, g)); got != g.Quote+g.Quote {
				t.Errorf("%v: %q", a, got)
			}
		}
	}
}

// cell is a cell of a kind.
func cell(kind int, n int64) api.Cell { return api.Cell{Kind: kind, N: n} }

// list is a list of cells.
func list(cells ...api.Cell) api.Arr { return api.Arr{Shape: []int{len(cells)}, Cells: cells} }

// unwritable are arrays that can't be written as they are (10.2).
func unwritable() []api.Arr {
	one, sign := cell(api.CInt, 1), cell(api.CChar, 'a')
	box := api.Cell{Kind: api.CBox, Box: []api.Arr{arr.Atom(1)}}
	long := make([]api.Cell, api.MaxCells+1)
	return []api.Arr{
		{},
		{Cells: []api.Cell{one, one}},
		list(one),
		list(sign),
		list(one, sign),
		list(sign, one),
		list(one, one, sign),
		{Cells: []api.Cell{box}},
		list(box, box),
		list(one, box),
		list(sign, box),
		{Shape: []int{2, 2}, Cells: []api.Cell{one, one, one, one}},
		{Shape: []int{1, 2}, Cells: []api.Cell{sign, sign}},
		{Shape: []int{0, 2}},
		{Shape: []int{2, 0}},
		{Shape: []int{-1}},
		{Shape: []int{2}},
		{Shape: []int{2}, Cells: []api.Cell{one}},
		{Shape: []int{2}, Cells: []api.Cell{one, one, one}},
		{Shape: []int{0}, Cells: []api.Cell{one}},
		{Shape: []int{0}, Cells: []api.Cell{sign, sign}},
		{Cells: []api.Cell{cell(3, 1)}},
		{Cells: []api.Cell{cell(-1, 1)}},
		{Cells: []api.Cell{{Kind: api.CInt, N: 1, Box: []api.Arr{arr.Atom(1)}}}},
		{Cells: []api.Cell{cell(api.CChar, 31)}},
		{Cells: []api.Cell{cell(api.CChar, 10)}},
		{Cells: []api.Cell{cell(api.CChar, 0)}},
		{Cells: []api.Cell{cell(api.CChar, -1)}},
		{Cells: []api.Cell{cell(api.CChar, 127)}},
		{Cells: []api.Cell{cell(api.CChar, 0xd800)}},
		{Cells: []api.Cell{cell(api.CChar, 0xdfff)}},
		{Cells: []api.Cell{cell(api.CChar, 0x110000)}},
		list(sign, cell(api.CChar, 127)),
		list(cell(api.CChar, 0xd800), sign),
		list(long...),
	}
}

// TestUnwritable: 16.1 and 16.2, ErrArg of what can't be written as it is, wherever it stands.
func TestUnwritable(t *testing.T) {
	for i, a := range unwritable() {
		lit := api.Node{Kind: api.NLit, Lit: a}
		for _, g := range someGrammars() {
			if got := told(spell.Literal(a, g)); got != "error" {
				t.Errorf("%d: %s", i, short(got))
			}
			for j, n := range []api.Node{lit, mo(verb("+"), lit), dy(verb("+"), lit, num(1)), dy(verb("+"), num(1), lit), index(lit, num(1)), index(num(1), lit), mo(lam1(lit), num(1)), mo(lam2(dy(verb("+"), left(), lit)), num(1)), mo(power(1, lam1(lit)), num(1))} {
				if got := written(g, n); got != "error" {
					t.Errorf("%d, place %d: %s", i, j, short(got))
				}
			}
		}
	}
}

// TestEdges: 16.1, signs and lists at the edges of what can be written.
func TestEdges(t *testing.T) {
	for _, n := range []int64{32, 126, 128, 0x7ff, 0x800, 0xd7ff, 0xe000, 0xffff, 0x10000, 0x10ffff} {
		want := `"` + string(rune(n)) + `"`
		if got := told(spell.Literal(arr.Text([]int64{n}), kGrammar())); got != want {
			t.Errorf("%x: %q; want %q", n, got, want)
		}
	}
	most := make([]int64, api.MaxCells)
	want := make([]string, len(most))
	for i := range most {
		most[i] = int64(-i)
		want[i] = fmt.Sprint(-i)
	}
	if got := told(spell.Literal(arr.Nums(most), kGrammar())); got != strings.Join(want, " ") {
		t.Error(short(got))
	}
	for i := range most {
		most[i] = '\''
	}
	if got := told(spell.Literal(arr.Text(most), jGrammar())); got != strings.Repeat("''", api.MaxCells+1) {
		t.Error(short(got))
	}
}

// TestLiteralsBack: P3, what is written is read as what it was, in each dialect.
func TestLiteralsBack(t *testing.T) {
	r := rand.New(rand.NewSource(162))
	for range 5000 {
		a := anyLiteral(r)
		for i, d := range []dialect{inAPL(), inJ(), inK()} {
			s, e := spell.Literal(a, d.g)
			words, f := d.lex(s)
			if e != api.OK || f != (api.Fault{}) || len(words) != 1 {
				t.Fatalf("dialect %d, %v: %q, %v, %v", i, a, s, e, f)
			}
			kind := api.TNum
			if len(a.Cells) == 0 || a.Cells[0].Kind == api.CChar {
				kind = api.TText
			}
			if words[0].Kind != kind || !arr.Same(words[0].Lit, a) {
				t.Fatalf("dialect %d, %v: %q, read as %v", i, a, s, words[0])
			}
		}
	}
}

// anyLiteral is an array that can be written.
func anyLiteral(r *rand.Rand) api.Arr {
	some := []int64{'\'', '"', '\\', ' ', 'a', '/', '0', '-', 0x2373, 0x235d, 0x10ffff}
	l := make([]int64, r.Intn(6))
	if r.Intn(2) == 0 {
		for i := range l {
			l[i] = some[r.Intn(len(some))]
		}
		return arr.Text(l)
	}
	for i := range l {
		l[i] = int64(r.Uint64()) >> r.Intn(64)
	}
	if len(l) == 1 {
		return arr.Atom(l[0])
	}
	return arr.Nums(l)
}
