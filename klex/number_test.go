package klex_test

import (
	"fmt"
	"math/big"
	"math/rand"
	"strings"
	"testing"
)

// TestNumber: 14.2, one number, with and without its sign, and with noughts ahead.
func TestNumber(t *testing.T) {
	texts{
		{"0", "num 0 0"},
		{"1", "num 1 0"},
		{"9", "num 9 0"},
		{"10", "num 10 0"},
		{"1234567890", "num 1234567890 0"},
		{"  7", "num 7 2"},
		{"7  ", "num 7 0"},
		{"-1", "num -1 0"},
		{"-120", "num -120 0"},
		{" -7 ", "num -7 1"},
		{"-0", "num 0 0"},
		{"00", "num 0 0"},
		{"007", "num 7 0"},
		{"-007", "num -7 0"},
		{"-000", "num 0 0"},
		{"08", "num 8 0"},
		{"010", "num 10 0"},
		{"+1", "sign + 0; num 1 1"},
		// What the published language, or another one, has in a number is not of it.
		{"1e3", "num 1 0; name e3 1"},
		{"1j", "num 1 0; name j 1"},
		{"0b1", "num 0 0; name b1 1"},
		{"0x1", "syntax at 1"},
		{"0x", "num 0 0; name x 1"},
		{"1E3", "syntax at 1"},
		{"1.5", "syntax at 1"},
		{"1.", "syntax at 1"},
		{"-1.", "syntax at 2"},
		{"1_2", "num 1 0; sign _ 1; num 2 2"},
		{"_1", "sign _ 0; num 1 1"},
		{"1 _1", "num 1 0; sign _ 2; num 1 3"},
		{"1,2", "num 1 0; sign , 1; num 2 2"},
		{"¯1", "syntax at 0"},
		{"1 ¯1", "syntax at 2"},
		{"−1", "syntax at 0"},
		{"٣", "syntax at 0"},
		{"1٣", "syntax at 1"},
		{"-٣", "syntax at 1"},
		{"１", "syntax at 0"},
	}.check(t)
}

// TestMinusNoDigit: 14.2 and 14.3, - with no digit behind it is a word of its own, wherever it stands.
func TestMinusNoDigit(t *testing.T) {
	texts{
		{"-", "sign - 0"},
		{" -", "sign - 1"},
		{"- ", "sign - 0"},
		{"- 1", "sign - 0; num 1 2"},
		{"-  -1", "sign - 0; num -1 3"},
		{"--", "sign - 0; sign - 1"},
		{"-a", "sign - 0; name a 1"},
		{"-x1", "syntax at 1"},
		{"-\"1\"", "sign - 0; text c49 1"},
		{"-(1)", "sign - 0; open ( 1; num 1 2; close ) 3"},
		{"-+1", "sign - 0; sign + 1; num 1 2"},
		{"-/1", "sign - 0; sign / 1; num 1 2"},
		{"-:1", "sign - 0; set : 1; num 1 2"},
		{"1 -", "num 1 0; sign - 2"},
		{"1-", "num 1 0; sign - 1"},
		{"1 - 2", "num 1 0; sign - 2; num 2 4"},
		{"1 2  -a", "num [1 2] 0; sign - 5; name a 6"},
		{"1 2 - 3 4", "num [1 2] 0; sign - 4; num [3 4] 6"},
		{"-1-", "num -1 0; sign - 2"},
		{"a-", "name a 0; sign - 1"},
		{"a-b", "name a 0; sign - 1; name b 2"},
		{"a - b", "name a 0; sign - 2; name b 4"},
		{"(-)", "open ( 0; sign - 1; close ) 2"},
		{"- /1", "sign - 0"},
	}.check(t)
}

// TestMinus: 14.2 and 14.5, - with a digit behind it, by the byte ahead of it.
func TestMinus(t *testing.T) {
	texts{
		{"-1", "num -1 0"},
		{" -1", "num -1 1"},
		{"   -1", "num -1 3"},
		// Behind an operand it is a function.
		{"a-1", "name a 0; sign - 1; num 1 2"},
		{"x-1", "name x 0; sign - 1; num 1 2"},
		{"a1-1", "name a1 0; sign - 2; num 1 3"},
		{"1-1", "num 1 0; sign - 1; num 1 2"},
		{"1 2-3 4", "num [1 2] 0; sign - 3; num [3 4] 4"},
		{")-1", "close ) 0; sign - 1; num 1 2"},
		{"]-1", "close ] 0; sign - 1; num 1 2"},
		{"}-1", "close } 0; sign - 1; num 1 2"},
		{`"a"-1`, "text c97 0; sign - 3; num 1 4"},
		{`""-1`, "text [] 0; sign - 2; num 1 3"},
		{`"\""-1`, "text c34 0; sign - 4; num 1 5"},
		{"(a)-1", "open ( 0; name a 1; close ) 2; sign - 3; num 1 4"},
		{"a[0]-1 2", "name a 0; open [ 1; num 0 2; close ] 3; sign - 4; num [1 2] 5"},
		{"{x}-1", "open { 0; name x 1; close } 2; sign - 3; num 1 4"},
		// With a blank between it is a number.
		{"a -1", "name a 0; num -1 2"},
		{"a  -1", "name a 0; num -1 3"},
		{"x -1", "name x 0; num -1 2"},
		{") -1", "close ) 0; num -1 2"},
		{"] -1", "close ] 0; num -1 2"},
		{"} -1", "close } 0; num -1 2"},
		{`"a" -1`, "text c97 0; num -1 4"},
		// Behind any other word, too.
		{"(-1)", "open ( 0; num -1 1; close ) 3"},
		{"{-1}", "open { 0; num -1 1; close } 3"},
		{"a[-1]", "name a 0; open [ 1; num -1 2; close ] 4"},
		{"a:-1", "name a 0; set : 1; num -1 2"},
		{"--1", "sign - 0; num -1 1"},
		{"---1", "sign - 0; sign - 1; num -1 2"},
		{"a--1", "name a 0; sign - 1; num -1 2"},
		{"1--1", "num 1 0; sign - 1; num -1 2"},
		{"1 --1", "num 1 0; sign - 2; num -1 3"},
		{"-1-1", "num -1 0; sign - 2; num 1 3"},
		{"-1--1", "num -1 0; sign - 2; num -1 3"},
		{"1-2-3", "num 1 0; sign - 1; num 2 2; sign - 3; num 3 4"},
		{"+/-1 -2", "sign + 0; sign / 1; num [-1 -2] 2"},
		{"+\\-1", "sign + 0; sign \\ 1; num -1 2"},
		// In a text it is a sign like others.
		{`"-1"`, "text [c45 c49] 0"},
		{`"a -1"`, "text [c97 c32 c45 c49] 0"},
	}.check(t)
}

// TestMinusBytes: 14.2, each byte ahead of - and a digit that leaves a word to begin there.
func TestMinusBytes(t *testing.T) {
	operand := "abcdefghijklmnopqrstuvwxyz0123456789)]}"
	for c := byte(32); c < 127; c++ {
		ahead := string([]byte{c})
		// What stands ahead of it here keeps / from being a remark's beginning, and the letters behind w from being none.
		front := "+" + ahead
		was := lex(front)
		if strings.HasPrefix(was, "syntax") {
			continue
		}
		want := fmt.Sprintf("%s; num -1 2", was)
		if strings.IndexByte(operand, c) >= 0 {
			want = fmt.Sprintf("%s; sign - 2; num 1 3", was)
		}
		texts{{front + "-1", want}}.check(t)
	}
}

// TestNumbers: 14.2, numbers that stand together, and those that do not.
func TestNumbers(t *testing.T) {
	texts{
		{"1 2", "num [1 2] 0"},
		{"1 2 3", "num [1 2 3] 0"},
		{"1  2", "num [1 2] 0"},
		{"1      2   3", "num [1 2 3] 0"},
		{"  1 2  ", "num [1 2] 2"},
		{"1 -2", "num [1 -2] 0"},
		{"1   -2", "num [1 -2] 0"},
		{"-1 -2", "num [-1 -2] 0"},
		{"-1   2", "num [-1 2] 0"},
		{"00 01", "num [0 1] 0"},
		{"1 1 1", "num [1 1 1] 0"},
		// Without a blank between them they do not stand together.
		{"1-2", "num 1 0; sign - 1; num 2 2"},
		{"1-2 3", "num 1 0; sign - 1; num [2 3] 2"},
		{"1 2-3 -4", "num [1 2] 0; sign - 3; num [3 -4] 4"},
		{"-1-2 -3", "num -1 0; sign - 2; num [2 -3] 3"},
		// Something between.
		{"1 a 2", "num 1 0; name a 2; num 2 4"},
		{"1 2 a 3 4", "num [1 2] 0; name a 4; num [3 4] 6"},
		{"1 2+3 4", "num [1 2] 0; sign + 3; num [3 4] 4"},
		{"1 (2) 3", "num 1 0; open ( 2; num 2 3; close ) 4; num 3 6"},
		{"1 \"a\" 2", "num 1 0; text c97 2; num 2 6"},
		{"1 - 2", "num 1 0; sign - 2; num 2 4"},
		{"1 - -2", "num 1 0; sign - 2; num -2 4"},
		{"1 ! 2", "num 1 0; sign ! 2; num 2 4"},
		{"1 2 $", "syntax at 4"},
		{"1 2 \"a", "syntax at 4"},
		{"1 2 . 3", "syntax at 4"},
		{"1 2a 3", "num [1 2] 0; name a 3; num 3 5"},
		{"1 -2a -3", "num [1 -2] 0; name a 4; num -3 6"},
		{"(1 2)", "open ( 0; num [1 2] 1; close ) 4"},
		{"!1  2", "sign ! 0; num [1 2] 1"},
		{"1 2 / 3", "num [1 2] 0"},
		{"1 2/ 3", "num [1 2] 0; sign / 3; num 3 5"},
		{"1 2/3 4", "num [1 2] 0; sign / 3; num [3 4] 4"},
	}.check(t)
}

// TestNumberEnds: 14.2, the least and the greatest number, and one beyond each.
func TestNumberEnds(t *testing.T) {
	noughts := strings.Repeat("0", 300)
	texts{
		{"9223372036854775807", "num 9223372036854775807 0"},
		{"-9223372036854775808", "num -9223372036854775808 0"},
		{"-9223372036854775807", "num -9223372036854775807 0"},
		{"9223372036854775808", "syntax at 0"},
		{"-9223372036854775809", "syntax at 0"},
		{"9223372036854775810", "syntax at 0"},
		{"10000000000000000000", "syntax at 0"},
		{"18446744073709551615", "syntax at 0"},
		{"18446744073709551616", "syntax at 0"},
		{"18446744073709551617", "syntax at 0"},
		{"-18446744073709551617", "syntax at 0"},
		{strings.Repeat("9", 400), "syntax at 0"},
		{"-" + strings.Repeat("9", 400), "syntax at 0"},
		{"0009223372036854775807", "num 9223372036854775807 0"},
		{"-0009223372036854775808", "num -9223372036854775808 0"},
		{noughts + "5", "num 5 0"},
		{"-" + noughts + "5", "num -5 0"},
		{noughts, "num 0 0"},
		{"0009223372036854775808", "syntax at 0"},
		{noughts + "9223372036854775808", "syntax at 0"},
		{"  9223372036854775808", "syntax at 2"},
		{"a -9223372036854775809", "syntax at 2"},
		{"9223372036854775807 -9223372036854775808", "num [9223372036854775807 -9223372036854775808] 0"},
		// As a function - leaves the number behind it above 0.
		{"a-9223372036854775807", "name a 0; sign - 1; num 9223372036854775807 2"},
		{"a-9223372036854775808", "syntax at 2"},
		{"- 9223372036854775808", "syntax at 2"},
		{"--9223372036854775808", "sign - 0; num -9223372036854775808 1"},
		// It is told where that number begins, not where those begin that stand together.
		{"1 9223372036854775808", "syntax at 2"},
		{"1   -9223372036854775809 3", "syntax at 4"},
		{"-1 2 9223372036854775808 4", "syntax at 5"},
		{"1 9223372036854775808 -9223372036854775809", "syntax at 2"},
		{"1-9223372036854775809", "syntax at 2"},
		{"9223372036854775808a", "syntax at 0"},
		{"9223372036854775808 $", "syntax at 0"},
	}.check(t)
}

// TestNumberMany: 14.2, numbers by chance, against numbers of any size.
func TestNumberMany(t *testing.T) {
	r := rand.New(rand.NewSource(142))
	least, most := new(big.Int).Lsh(big.NewInt(-1), 63), new(big.Int).Sub(new(big.Int).Lsh(big.NewInt(1), 63), big.NewInt(1))
	for range 50000 {
		// Most of them lie about the ends.
		n := new(big.Int).Rand(r, new(big.Int).Lsh(big.NewInt(1), uint(1+r.Intn(66))))
		if r.Intn(2) == 0 {
			n.Add(most, big.NewInt(int64(r.Intn(21)-10)))
		}
		s := strings.Repeat("0", r.Intn(3)) + n.String()
		if r.Intn(2) == 0 {
			n.Neg(n)
			s = "-" + s
		}
		want := fmt.Sprintf("num %v 0", n)
		if n.Cmp(least) < 0 || n.Cmp(most) > 0 {
			want = "syntax at 0"
		}
		if got := lex(s); got != want {
			t.Fatalf("%s: %s; want %s", s, got, want)
		}
	}
}
