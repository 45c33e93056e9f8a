package jlex_test

import (
	"fmt"
	"math/big"
	"math/rand"
	"strings"
	"testing"
)

// TestNumber: 13.2, one number, with and without its sign, and with noughts ahead.
func TestNumber(t *testing.T) {
	texts{
		{"0", "num 0 0"},
		{"1", "num 1 0"},
		{"9", "num 9 0"},
		{"10", "num 10 0"},
		{"1234567890", "num 1234567890 0"},
		{"  7", "num 7 2"},
		{"7  ", "num 7 0"},
		{"_1", "num -1 0"},
		{"_120", "num -120 0"},
		{" _7 ", "num -7 1"},
		{"_0", "num 0 0"},
		{"00", "num 0 0"},
		{"007", "num 7 0"},
		{"_007", "num -7 0"},
		{"_000", "num 0 0"},
		{"08", "num 8 0"},
		{"010", "num 10 0"},
		// - is a function.
		{"-1", "sign - 0; num 1 1"},
		{"1-1", "num 1 0; sign - 1; num 1 2"},
		{"- 1", "sign - 0; num 1 2"},
		{"-_1", "sign - 0; num -1 1"},
		{"+1", "sign + 0; num 1 1"},
		// What the published language, or another one, has in a number is not of it.
		{"1e3", "num 1 0; name e3 1"},
		{"1b1", "num 1 0; name b1 1"},
		{"1j2", "num 1 0; name j2 1"},
		{"0x1", "syntax at 1"},
		{"1x", "num 1 0; name x 1"},
		{"1E3", "syntax at 1"},
		{"1.5", "syntax at 1"},
		{"1.", "syntax at 1"},
		{"1:", "syntax at 1"},
		{"_1:", "syntax at 2"},
		{"_.", "syntax at 0"},
		{"_:", "syntax at 0"},
		{"1,2", "num 1 0; sign , 1; num 2 2"},
		{"¯1", "syntax at 0"},
		{"1 ¯1", "syntax at 2"},
		{"٣", "syntax at 0"},
		{"1٣", "syntax at 1"},
		{"１", "syntax at 0"},
	}.check(t)
}

// TestMinus: 13.2, the sign of a number below 0 with no digit behind it.
func TestMinus(t *testing.T) {
	texts{
		{"_", "syntax at 0"},
		{" _", "syntax at 1"},
		{"_ 1", "syntax at 0"},
		{"__1", "syntax at 0"},
		{"__", "syntax at 0"},
		{"_a", "syntax at 0"},
		{"_-1", "syntax at 0"},
		{"_'a'", "syntax at 0"},
		{"1 _", "syntax at 2"},
		{"1_", "syntax at 1"},
		{"1 _ 2", "syntax at 2"},
		{"1 2  _a", "syntax at 5"},
		{"1 __2", "syntax at 2"},
		{"_1_", "syntax at 2"},
		{"-_", "syntax at 1"},
		{"a_", "syntax at 1"},
		{"a_b", "syntax at 1"},
		{"i._", "syntax at 2"},
	}.check(t)
}

// TestNumbers: 13.2, numbers that stand together, and those that do not.
func TestNumbers(t *testing.T) {
	texts{
		{"1 2", "num [1 2] 0"},
		{"1 2 3", "num [1 2 3] 0"},
		{"1  2", "num [1 2] 0"},
		{"1      2   3", "num [1 2 3] 0"},
		{"  1 2  ", "num [1 2] 2"},
		{"1 _2", "num [1 -2] 0"},
		{"_1 _2", "num [-1 -2] 0"},
		{"_1   2", "num [-1 2] 0"},
		{"00 01", "num [0 1] 0"},
		{"1 1 1", "num [1 1 1] 0"},
		// Right behind a number another one is a word of its own.
		{"1_2", "num 1 0; num -2 1"},
		{"1_2 3", "num 1 0; num [-2 3] 1"},
		{"1 2_3 4", "num [1 2] 0; num [-3 4] 3"},
		{"_1_2_3", "num -1 0; num -2 2; num -3 4"},
		{"1_000", "num 1 0; num 0 1"},
		// Something between.
		{"1 a 2", "num 1 0; name a 2; num 2 4"},
		{"1 2 a 3 4", "num [1 2] 0; name a 4; num [3 4] 6"},
		{"1 2+3 4", "num [1 2] 0; sign + 3; num [3 4] 4"},
		{"1 (2) 3", "num 1 0; open ( 2; num 2 3; close ) 4; num 3 6"},
		{"1 - 2", "num 1 0; sign - 2; num 2 4"},
		{"1 -2", "num 1 0; sign - 2; num 2 3"},
		{"1 i. 2", "num 1 0; sign i. 2; num 2 5"},
		{"1 2 &", "syntax at 4"},
		{"1 2 'a", "syntax at 4"},
		{"1 2 . 3", "syntax at 4"},
		{"1 2a 3", "num [1 2] 0; name a 3; num 3 5"},
		{"(1 2)", "open ( 0; num [1 2] 1; close ) 4"},
		{"i.1  2", "sign i. 0; num [1 2] 2"},
		{"1 2NB. 3", "num [1 2] 0"},
		{"1 2 NB. 3", "num [1 2] 0"},
	}.check(t)
}

// TestNumberEnds: 13.2, the least and the greatest number, and one beyond each.
func TestNumberEnds(t *testing.T) {
	noughts := strings.Repeat("0", 300)
	texts{
		{"9223372036854775807", "num 9223372036854775807 0"},
		{"_9223372036854775808", "num -9223372036854775808 0"},
		{"_9223372036854775807", "num -9223372036854775807 0"},
		{"9223372036854775808", "syntax at 0"},
		{"_9223372036854775809", "syntax at 0"},
		{"9223372036854775810", "syntax at 0"},
		{"10000000000000000000", "syntax at 0"},
		{"18446744073709551615", "syntax at 0"},
		{"18446744073709551616", "syntax at 0"},
		{"18446744073709551617", "syntax at 0"},
		{"_18446744073709551617", "syntax at 0"},
		{strings.Repeat("9", 400), "syntax at 0"},
		{"_" + strings.Repeat("9", 400), "syntax at 0"},
		{"0009223372036854775807", "num 9223372036854775807 0"},
		{"_0009223372036854775808", "num -9223372036854775808 0"},
		{noughts + "5", "num 5 0"},
		{"_" + noughts + "5", "num -5 0"},
		{noughts, "num 0 0"},
		{"0009223372036854775808", "syntax at 0"},
		{noughts + "9223372036854775808", "syntax at 0"},
		{"  9223372036854775808", "syntax at 2"},
		{"a _9223372036854775809", "syntax at 2"},
		{"9223372036854775807 _9223372036854775808", "num [9223372036854775807 -9223372036854775808] 0"},
		// It is told where that number begins, not where those begin that stand together.
		{"1 9223372036854775808", "syntax at 2"},
		{"1   _9223372036854775809 3", "syntax at 4"},
		{"_1 2 9223372036854775808 4", "syntax at 5"},
		{"1 9223372036854775808 _9223372036854775809", "syntax at 2"},
		{"1_9223372036854775809", "syntax at 1"},
		{"9223372036854775808a", "syntax at 0"},
		{"9223372036854775808 _", "syntax at 0"},
	}.check(t)
}

// TestNumberMany: 13.2, numbers by chance, against numbers of any size.
func TestNumberMany(t *testing.T) {
	r := rand.New(rand.NewSource(132))
	least, most := new(big.Int).Lsh(big.NewInt(-1), 63), new(big.Int).Sub(new(big.Int).Lsh(big.NewInt(1), 63), big.NewInt(1))
	for range 50000 {
		// Most of them lie about the ends.
		n := new(big.Int).Rand(r, new(big.Int).Lsh(big.NewInt(1), uint(1+r.Intn(66))))
		if r.Intn(2) == 0 {
			n.Add(most, big.NewInt(int64(r.Intn(21)-10)))
		}
		s := strings.Repeat("0", r.Intn(3)) + n.String()
		if r.Intn(2) == 0 {
			n.Neg(n)
			s = "_" + s
		}
		want := fmt.Sprintf("num %v 0", n)
		if n.Cmp(least) < 0 || n.Cmp(most) > 0 {
			want = "syntax at 0"
		}
		if got := lex(s); got != want {
			t.Fatalf("%s: %s; want %s", s, got, want)
		}
	}
}
