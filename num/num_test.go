package num_test

import (
	"math"
	"math/big"
	"slices"
	"testing"

	"triglyph/api"
	"triglyph/num"
)

const (
	least = math.MinInt64
	most  = math.MaxInt64
)

// edges are numbers about which something may go wrong: the ends, 0, powers of 2, and the roots of the ends.
func edges() []int64 {
	l := []int64{least, least + 1, least + 2, most - 1, most, 3037000499, 3037000500, -3037000499, -3037000500}
	for n := int64(-6); n <= 6; n++ {
		l = append(l, n)
	}
	for _, k := range []int{21, 31, 32, 33, 42, 61, 62} {
		p := int64(1) << k
		l = append(l, p-1, p, p+1, -p-1, -p, -p+1)
	}
	return l
}

// few are edges, few enough for all lists of three of them, with each order.
func few() []int64 {
	return []int64{least, least + 1, -1 << 62, -1 << 32, -3, -2, -1, 0, 1, 2, 3, 1 << 31, 1 << 32, 1 << 62, most - 1, most}
}

// fit is an exact number as the document asks for it.
func fit(n *big.Int) (int64, api.Errno) {
	if !n.IsInt64() {
		return 0, api.ErrOverflow
	}
	return n.Int64(), api.OK
}

func exactSum(l []int64) (int64, api.Errno) {
	n := big.NewInt(0)
	for _, x := range l {
		n.Add(n, big.NewInt(x))
	}
	return fit(n)
}

func exactProd(l []int64) (int64, api.Errno) {
	n := big.NewInt(1)
	for _, x := range l {
		n.Mul(n, big.NewInt(x))
	}
	return fit(n)
}

// expect holds an answer against the one asked for.
func expect(t *testing.T, what string, args []int64, got int64, e api.Errno, want int64, wantErr api.Errno) {
	t.Helper()
	if got != want || e != wantErr {
		t.Errorf("%s of %v: %d, %v; want %d, %v", what, args, got, e, want, wantErr)
	}
}

// TestTwoExact: 1.1, against exact numbers.
func TestTwoExact(t *testing.T) {
	for _, a := range edges() {
		for _, b := range edges() {
			x, y, z := big.NewInt(a), big.NewInt(b), new(big.Int)
			args := []int64{a, b}
			got, e := num.Add(a, b)
			want, wantErr := fit(z.Add(x, y))
			expect(t, "Add", args, got, e, want, wantErr)
			got, e = num.Sub(a, b)
			want, wantErr = fit(z.Sub(x, y))
			expect(t, "Sub", args, got, e, want, wantErr)
			got, e = num.Mul(a, b)
			want, wantErr = fit(z.Mul(x, y))
			expect(t, "Mul", args, got, e, want, wantErr)
		}
	}
}

// TestTwoEnds: 1.1, at the ends, and just beyond.
func TestTwoEnds(t *testing.T) {
	calls := map[string]func(a, b int64) (int64, api.Errno){"Add": num.Add, "Sub": num.Sub, "Mul": num.Mul}
	for _, c := range []struct {
		what string
		a, b int64
		want int64
		err  api.Errno
	}{
		{"Add", 2, 3, 5, api.OK},
		{"Add", most, 0, most, api.OK},
		{"Add", most, 1, 0, api.ErrOverflow},
		{"Add", 1, most, 0, api.ErrOverflow},
		{"Add", least, -1, 0, api.ErrOverflow},
		{"Add", least, least, 0, api.ErrOverflow},
		{"Add", least, most, -1, api.OK},
		{"Sub", 2, 3, -1, api.OK},
		{"Sub", least, 0, least, api.OK},
		{"Sub", least, 1, 0, api.ErrOverflow},
		{"Sub", most, -1, 0, api.ErrOverflow},
		{"Sub", 0, least, 0, api.ErrOverflow},
		{"Sub", -1, least, most, api.OK},
		{"Sub", least, least, 0, api.OK},
		{"Mul", -4, 3, -12, api.OK},
		{"Mul", least, 1, least, api.OK},
		{"Mul", 1, least, least, api.OK},
		{"Mul", least, 0, 0, api.OK},
		{"Mul", least, -1, 0, api.ErrOverflow},
		{"Mul", -1, least, 0, api.ErrOverflow},
		{"Mul", 1 << 32, 1 << 31, 0, api.ErrOverflow},
		{"Mul", 1 << 32, -1 << 31, least, api.OK},
		{"Mul", 1 << 32, 1 << 32, 0, api.ErrOverflow},
		{"Mul", most, most, 0, api.ErrOverflow},
	} {
		got, e := calls[c.what](c.a, c.b)
		expect(t, c.what, []int64{c.a, c.b}, got, e, c.want, c.err)
	}
}

// TestOne: 1.2.
func TestOne(t *testing.T) {
	for _, a := range edges() {
		args := []int64{a}
		x, z := big.NewInt(a), new(big.Int)
		got, e := num.Neg(a)
		want, wantErr := fit(z.Neg(x))
		expect(t, "Neg", args, got, e, want, wantErr)
		got, e = num.Abs(a)
		want, wantErr = fit(z.Abs(x))
		expect(t, "Abs", args, got, e, want, wantErr)
		expect(t, "Sgn", args, num.Sgn(a), api.OK, int64(x.Sign()), api.OK)
	}
	if n, e := num.Neg(least); n != 0 || e != api.ErrOverflow {
		t.Errorf("Neg of -2^63: %d, %v", n, e)
	}
	if n, e := num.Abs(least); n != 0 || e != api.ErrOverflow {
		t.Errorf("Abs of -2^63: %d, %v", n, e)
	}
}

// TestListsEdges: 1.3, where parts do not fit though the whole does, and where the whole does not.
func TestListsEdges(t *testing.T) {
	for _, c := range []struct {
		list    []int64
		sum     int64
		sumErr  api.Errno
		prod    int64
		prodErr api.Errno
	}{
		{nil, 0, api.OK, 1, api.OK},
		{[]int64{}, 0, api.OK, 1, api.OK},
		{[]int64{7}, 7, api.OK, 7, api.OK},
		{[]int64{least}, least, api.OK, least, api.OK},
		{[]int64{most}, most, api.OK, most, api.OK},
		{[]int64{0}, 0, api.OK, 0, api.OK},
		{[]int64{2, -3, 4}, 3, api.OK, -24, api.OK},
		{[]int64{most, 5, -6}, most - 1, api.OK, 0, api.ErrOverflow},
		{[]int64{least, -5, 6}, least + 1, api.OK, 0, api.ErrOverflow},
		{[]int64{most, 1}, 0, api.ErrOverflow, most, api.OK},
		{[]int64{least, -1}, 0, api.ErrOverflow, 0, api.ErrOverflow},
		{[]int64{least, -1, -1}, 0, api.ErrOverflow, least, api.OK},
		{[]int64{most, most, most, least, least, least}, -3, api.OK, 0, api.ErrOverflow},
		{[]int64{most, most, 2}, 0, api.ErrOverflow, 0, api.ErrOverflow},
		{[]int64{least, least}, 0, api.ErrOverflow, 0, api.ErrOverflow},
		{[]int64{most, most, most, 0}, 0, api.ErrOverflow, 0, api.OK},
		{[]int64{0, least, least}, 0, api.ErrOverflow, 0, api.OK},
		{[]int64{1 << 32, 1 << 31, -1}, 1<<32 + 1<<31 - 1, api.OK, least, api.OK},
		{[]int64{1 << 32, 1 << 31, 1}, 1<<32 + 1<<31 + 1, api.OK, 0, api.ErrOverflow},
		{[]int64{1 << 32, 1 << 31, 2}, 1<<32 + 1<<31 + 2, api.OK, 0, api.ErrOverflow},
		{[]int64{1 << 62, 1 << 62, 1 << 62, 1 << 62}, 0, api.ErrOverflow, 0, api.ErrOverflow},
	} {
		sum, e := num.Sum(c.list)
		expect(t, "Sum", c.list, sum, e, c.sum, c.sumErr)
		prod, e := num.Prod(c.list)
		expect(t, "Prod", c.list, prod, e, c.prod, c.prodErr)
	}
}

// TestListsExact: 1.3 and 1.5: all lists of three of a few numbers, so each in every order.
func TestListsExact(t *testing.T) {
	for _, a := range few() {
		for _, b := range few() {
			for _, c := range few() {
				l := []int64{a, b, c}
				got, e := num.Sum(l)
				want, wantErr := exactSum(l)
				expect(t, "Sum", l, got, e, want, wantErr)
				got, e = num.Prod(l)
				want, wantErr = exactProd(l)
				expect(t, "Prod", l, got, e, want, wantErr)
			}
		}
	}
}

// TestListsLong: 1.3: the sum of many goes round often upward, then as often downward.
func TestListsLong(t *testing.T) {
	l := slices.Repeat([]int64{most}, 5000)
	if n, e := num.Sum(l); n != 0 || e != api.ErrOverflow {
		t.Errorf("Sum of many: %d, %v", n, e)
	}
	l = append(l, slices.Repeat([]int64{-most}, 4999)...)
	if n, e := num.Sum(l); n != most || e != api.OK {
		t.Errorf("Sum of many that outweigh each other: %d, %v", n, e)
	}
	l = slices.Repeat([]int64{-1}, 4097)
	if n, e := num.Prod(append(l, most)); n != -most || e != api.OK {
		t.Errorf("Prod of many: %d, %v", n, e)
	}
	if n, e := num.Prod(slices.Repeat([]int64{-2}, 63)); n != least || e != api.OK {
		t.Errorf("Prod of 63 times -2: %d, %v", n, e)
	}
	if n, e := num.Prod(slices.Repeat([]int64{-2}, 64)); n != 0 || e != api.ErrOverflow {
		t.Errorf("Prod of 64 times -2: %d, %v", n, e)
	}
}

// TestOrder: 1.5: whatever the order, the same answer, of two numbers and of many.
func TestOrder(t *testing.T) {
	for _, a := range edges() {
		for _, b := range edges() {
			n, e := num.Add(a, b)
			m, f := num.Add(b, a)
			expect(t, "Add turned", []int64{a, b}, m, f, n, e)
			n, e = num.Mul(a, b)
			m, f = num.Mul(b, a)
			expect(t, "Mul turned", []int64{a, b}, m, f, n, e)
		}
	}
	for _, l := range [][]int64{{most, most, 3, least, least, 0}, {1 << 40, 1 << 40, -1, 5, 0}, {1 << 32, -1 << 30, 2, 1, -1}, {least, -1, -1, 1}} {
		sum, sumErr := exactSum(l)
		prod, prodErr := exactProd(l)
		eachOrder(l, 0, func(p []int64) {
			n, e := num.Sum(p)
			expect(t, "Sum", p, n, e, sum, sumErr)
			n, e = num.Prod(p)
			expect(t, "Prod", p, n, e, prod, prodErr)
		})
	}
}

// eachOrder hands out l in every order of what stands from k on.
func eachOrder(l []int64, k int, do func([]int64)) {
	if k == len(l) {
		do(l)
		return
	}
	for i := k; i < len(l); i++ {
		l[k], l[i] = l[i], l[k]
		eachOrder(l, k+1, do)
		l[k], l[i] = l[i], l[k]
	}
}

// TestRes: 1.4: between 0 and a, a left out, and b but for a multiple of a.
func TestRes(t *testing.T) {
	for _, a := range edges() {
		for _, b := range edges() {
			r := num.Res(a, b)
			if a == 0 {
				expect(t, "Res", []int64{a, b}, r, api.OK, b, api.OK)
				continue
			}
			if a > 0 && (r < 0 || r >= a) || a < 0 && (r > 0 || r <= a) {
				t.Errorf("Res of %d, %d: %d is not from 0 up to the first", a, b, r)
			}
			away := new(big.Int).Sub(big.NewInt(b), big.NewInt(r))
			if away.Rem(away, big.NewInt(a)).Sign() != 0 {
				t.Errorf("Res of %d, %d: %d is not a multiple away", a, b, r)
			}
		}
	}
	for _, c := range [][3]int64{{3, -1, 2}, {-3, 1, -2}, {3, 7, 1}, {-3, -7, -1}, {3, 6, 0}, {-3, 6, 0}, {1, most, 0}, {-1, least, 0}, {least, most, -1}, {most, least, most - 1}, {least, least, 0}, {0, least, least}, {0, 0, 0}} {
		expect(t, "Res", c[:2], num.Res(c[0], c[1]), api.OK, c[2], api.OK)
	}
}

// TestListsStay: R3: what is handed in stays as it is, and what lies behind its end plays no part.
func TestListsStay(t *testing.T) {
	back := []int64{4, -5, 6, 0, most}
	want := slices.Clone(back)
	if n, e := num.Sum(back[:3]); n != 5 || e != api.OK {
		t.Errorf("Sum: %d, %v", n, e)
	}
	if n, e := num.Prod(back[:3]); n != -120 || e != api.OK {
		t.Errorf("Prod: %d, %v", n, e)
	}
	if !slices.Equal(back, want) {
		t.Errorf("changed: %v", back)
	}
}
