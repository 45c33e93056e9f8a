package runes_test

import (
	"bytes"
	"math"
	"slices"
	"testing"
	"unicode/utf8"

	"triglyph/api"
	"triglyph/runes"
)

// sign is a number with its bytes, written out.
type sign struct {
	n     int64
	bytes string
}

// edgeSigns are the first and the last sign of each form, and those beside d800 to dfff.
func edgeSigns() []sign {
	return []sign{
		{0, "\x00"}, {1, "\x01"}, {0x61, "a"}, {0x7e, "\x7e"}, {0x7f, "\x7f"},
		{0x80, "\xc2\x80"}, {0xbf, "\xc2\xbf"}, {0xc0, "\xc3\x80"}, {0xd7, "\xc3\x97"}, {0x7ff, "\xdf\xbf"},
		{0x800, "\xe0\xa0\x80"}, {0xfff, "\xe0\xbf\xbf"}, {0x1000, "\xe1\x80\x80"}, {0x2373, "\xe2\x8d\xb3"},
		{0xd7ff, "\xed\x9f\xbf"}, {0xe000, "\xee\x80\x80"}, {0xfffd, "\xef\xbf\xbd"}, {0xfffe, "\xef\xbf\xbe"}, {0xffff, "\xef\xbf\xbf"},
		{0x10000, "\xf0\x90\x80\x80"}, {0x3ffff, "\xf0\xbf\xbf\xbf"}, {0x40000, "\xf1\x80\x80\x80"},
		{0xfffff, "\xf3\xbf\xbf\xbf"}, {0x100000, "\xf4\x80\x80\x80"}, {0x10ffff, "\xf4\x8f\xbf\xbf"},
	}
}

// wrongNumbers are numbers of no sign, some of them a sign's in their last bits.
func wrongNumbers() []int64 {
	return []int64{-1, -2, -0x61, -0x110000, 0xd800, 0xd801, 0xdabc, 0xdfff, 0x110000, 0x110001, 0x1fffff, 0x200000,
		1 << 31, 1<<31 - 1, -1 << 31, 1 << 32, 1<<32 + 0x61, -1<<32 + 0x61, 1<<40 + 0x2373, math.MaxInt64, math.MinInt64, math.MinInt64 + 0x61}
}

// wrongBytes begin no sign's.
func wrongBytes() []string {
	return []string{
		// Bytes that cannot begin a sign.
		"\x80", "\x81", "\xbf", "\x80\x80", "\xbfa", "\xf8\x88\x80\x80\x80", "\xfb\xbf\xbf\xbf\xbf",
		"\xfc\x84\x80\x80\x80\x80", "\xfd\xbf\xbf\xbf\xbf\xbf", "\xfe", "\xff", "\xff\xbf\xbf\xbf\xbf\xbf\xbf",
		// Longer than need be.
		"\xc0\x80", "\xc0\xaf", "\xc1\x81", "\xc1\xbf",
		"\xe0\x80\x80", "\xe0\x81\x81", "\xe0\x82\x80", "\xe0\x9f\xbf",
		"\xf0\x80\x80\x80", "\xf0\x80\x81\x81", "\xf0\x82\x8d\xb3", "\xf0\x8f\xbf\xbf",
		// Cut off, at the end or by another byte.
		"\xc2", "\xdf", "\xe2", "\xe2\x8d", "\xf0", "\xf0\x90", "\xf0\x90\x80", "\xf4\x8f\xbf",
		"\xc2a", "\xc2\x7f", "\xc2\xc0", "\xc2\xc2\x80", "\xe2a\xb3", "\xe2\x8da", "\xe2\x8d\xc0", "\xe2\xcd\xb3", "\xe2\x0d\xb3", "\xe2\x8d\x33", "\xe2\x8d\xf3",
		"\xf0\x10\x80\x80", "\xf0\x90\x00\x80", "\xf0\x90\x80\x00", "\xf0\x90\x80a", "\xf0\xd0\x80\x80", "\xf0\x90\xc0\x80", "\xf0\x90\x80\xc0",
		// d800 to dfff.
		"\xed\xa0\x80", "\xed\xaf\xbf", "\xed\xb0\x80", "\xed\xbf\xbf", "\xed\xa0\x80\xed\xb0\x80",
		// Beyond 10ffff.
		"\xf4\x90\x80\x80", "\xf4\xbf\xbf\xbf", "\xf5\x80\x80\x80", "\xf7\xbf\xbf\xbf",
	}
}

// within is b as a piece of a longer list, so that what lies behind its length would complete a sign.
func within(b string, behind string) []byte {
	return []byte(b + behind)[:len(b)]
}

// TestGood: 2.1, with the numbers on either side of each edge.
func TestGood(t *testing.T) {
	for _, s := range edgeSigns() {
		if !runes.Good(s.n) {
			t.Errorf("Good(%x): false", s.n)
		}
	}
	for _, n := range wrongNumbers() {
		if runes.Good(n) {
			t.Errorf("Good(%x): true", n)
		}
	}
	good := 0
	for n := int64(-0x1000); n < 0x120000; n++ {
		if runes.Good(n) {
			good++
		}
	}
	if good != 0x110000-0x800 {
		t.Errorf("%x signs in all", good)
	}
}

// TestWriteOne: 2.2, each form's first and last sign.
func TestWriteOne(t *testing.T) {
	for _, s := range edgeSigns() {
		b, e := runes.Write([]int64{s.n})
		if string(b) != s.bytes || e != api.OK {
			t.Errorf("Write(%x): %x, %v; want %x", s.n, b, e, s.bytes)
		}
	}
}

// TestWriteMany: 2.2, one behind the other, in either order.
func TestWriteMany(t *testing.T) {
	for _, a := range edgeSigns() {
		for _, z := range edgeSigns() {
			b, e := runes.Write([]int64{a.n, z.n, a.n})
			if want := a.bytes + z.bytes + a.bytes; string(b) != want || e != api.OK {
				t.Errorf("Write(%x, %x, %x): %x, %v; want %x", a.n, z.n, a.n, b, e, want)
			}
		}
	}
}

// TestWriteNone: 2.2, no signs have no bytes.
func TestWriteNone(t *testing.T) {
	for _, l := range [][]int64{nil, {}, []int64{0x61}[:0], []int64{-1}[:0]} {
		if b, e := runes.Write(l); len(b) != 0 || e != api.OK {
			t.Errorf("Write of none: %x, %v", b, e)
		}
	}
}

// TestWriteWrong: 2.2, wherever the wrong one stands, and no bytes beside the error.
func TestWriteWrong(t *testing.T) {
	for _, n := range wrongNumbers() {
		for _, l := range [][]int64{{n}, {n, 0x61}, {0x61, n}, {0x61, 0x2373, n, 0x10ffff}, {n, n}, {0x61, n, -1}} {
			if b, e := runes.Write(l); len(b) != 0 || e != api.ErrUtf8 {
				t.Errorf("Write(%x): %x, %v; want ErrUtf8 alone", l, b, e)
			}
		}
	}
}

// TestOne: 2.3, the first sign alone, whatever follows it.
func TestOne(t *testing.T) {
	for _, s := range edgeSigns() {
		for _, behind := range []string{"", "\x00", "a", "\x80", "\xbf\xbf", "\xc2", "\xe2\x8d\xb3", "\xff"} {
			n, size := runes.One([]byte(s.bytes + behind))
			if n != s.n || size != len(s.bytes) {
				t.Errorf("One(%x): %x, %d; want %x, %d", s.bytes+behind, n, size, s.n, len(s.bytes))
			}
		}
	}
}

// TestOneNone: 2.3, where no sign begins.
func TestOneNone(t *testing.T) {
	for _, b := range append(wrongBytes(), "") {
		if n, size := runes.One([]byte(b)); n != 0 || size != 0 {
			t.Errorf("One(%x): %x, %d; want 0, 0", b, n, size)
		}
	}
	if n, size := runes.One(nil); n != 0 || size != 0 {
		t.Errorf("One(nil): %x, %d", n, size)
	}
}

// expectOne holds One against the library's reader of UTF-8.
func expectOne(t *testing.T, b []byte) {
	t.Helper()
	want, wantSize := utf8.DecodeRune(b)
	if want == utf8.RuneError && wantSize <= 1 {
		want, wantSize = 0, 0
	}
	if n, size := runes.One(b); n != int64(want) || size != wantSize {
		t.Fatalf("One(%x): %x, %d; want %x, %d", b, n, size, want, wantSize)
	}
}

// TestOneAllBytes: 2.3, all lists of one and two bytes, and those of three and four that begin with a high one.
func TestOneAllBytes(t *testing.T) {
	for a := range 256 {
		expectOne(t, []byte{byte(a)})
		for b := range 256 {
			expectOne(t, []byte{byte(a), byte(b)})
		}
	}
	b := make([]byte, 3)
	for i := 0xc0 << 16; i < 1<<24; i++ {
		b[0], b[1], b[2] = byte(i>>16), byte(i>>8), byte(i)
		expectOne(t, b)
	}
	b = make([]byte, 4)
	last := []byte{0, 0x3f, 0x40, 0x7f, 0x80, 0x81, 0xb3, 0xbf, 0xc0, 0xff}
	for i := 0xe000; i < 1<<16; i++ {
		for _, x := range last {
			for _, y := range last {
				b[0], b[1], b[2], b[3] = byte(i>>8), byte(i), x, y
				expectOne(t, b)
			}
		}
	}
}

// TestRead: 2.3, several signs one behind the other.
func TestRead(t *testing.T) {
	for _, a := range edgeSigns() {
		for _, z := range edgeSigns() {
			l, at, e := runes.Read([]byte(a.bytes + z.bytes + a.bytes))
			if !slices.Equal(l, []int64{a.n, z.n, a.n}) || at != 0 || e != api.OK {
				t.Errorf("Read(%x): %x, %d, %v", a.bytes+z.bytes+a.bytes, l, at, e)
			}
		}
	}
	for _, b := range [][]byte{nil, {}, []byte("a")[:0], []byte("\xff")[:0]} {
		if l, at, e := runes.Read(b); len(l) != 0 || at != 0 || e != api.OK {
			t.Errorf("Read of none: %x, %d, %v", l, at, e)
		}
	}
}

// TestReadWrong: 2.3, at which byte the wrong ones begin, behind signs of each size, and the first of several.
func TestReadWrong(t *testing.T) {
	for _, wrong := range wrongBytes() {
		for _, ahead := range []string{"", "a", "\x00", "\u00d7", "\u2373", "\U0010ffff", "a\u2373b\U00010000\u00d7"} {
			for _, behind := range []string{"", "a", "\u2373", "\xff"} {
				// What is behind may complete what was cut off.
				if utf8.FullRuneInString(wrong+behind) && utf8.ValidString(wrong+behind) {
					continue
				}
				l, at, e := runes.Read([]byte(ahead + wrong + behind))
				if len(l) != 0 || at != len(ahead) || e != api.ErrUtf8 {
					t.Errorf("Read(%x): %x, %d, %v; want none, %d, ErrUtf8", ahead+wrong+behind, l, at, e, len(ahead))
				}
			}
		}
	}
}

// TestExamples: the chapter's own.
func TestExamples(t *testing.T) {
	if b, e := runes.Write([]int64{0x61, 0x2373}); !bytes.Equal(b, []byte{0x61, 0xe2, 0x8d, 0xb3}) || e != api.OK {
		t.Errorf("Write: %x, %v", b, e)
	}
	if l, at, e := runes.Read([]byte{0x61, 0xff}); len(l) != 0 || at != 1 || e != api.ErrUtf8 {
		t.Errorf("Read of 61 ff: %x, %d, %v", l, at, e)
	}
	if l, at, e := runes.Read([]byte{0xc0, 0x80}); len(l) != 0 || at != 0 || e != api.ErrUtf8 {
		t.Errorf("Read of c0 80: %x, %d, %v", l, at, e)
	}
}

// TestThereAndBack: 2.4, from all signs to bytes and back, as one list and one by one.
func TestThereAndBack(t *testing.T) {
	var all []int64
	for n := range int64(0x110000) {
		if !runes.Good(n) {
			continue
		}
		all = append(all, n)
		b, e := runes.Write([]int64{n})
		l, at, e2 := runes.Read(b)
		if e != api.OK || !slices.Equal(l, []int64{n}) || at != 0 || e2 != api.OK {
			t.Fatalf("%x: written %x, %v, read %x, %d, %v", n, b, e, l, at, e2)
		}
	}
	b, e := runes.Write(all)
	l, at, e2 := runes.Read(b)
	if e != api.OK || !slices.Equal(l, all) || at != 0 || e2 != api.OK {
		t.Errorf("all signs: %v, %d signs, %d, %v", e, len(l), at, e2)
	}
}

// FuzzBackAndThere: 2.4, what is read is written as it was; else it is what the library takes for wrong, too.
func FuzzBackAndThere(f *testing.F) {
	for _, b := range wrongBytes() {
		f.Add([]byte("a\u2373" + b))
	}
	for _, s := range edgeSigns() {
		f.Add([]byte(s.bytes + "a"))
	}
	f.Fuzz(func(t *testing.T, b []byte) {
		l, at, e := runes.Read(b)
		if (e == api.OK) != utf8.Valid(b) {
			t.Fatalf("Read(%x): %v", b, e)
		}
		if e != api.OK {
			if len(l) != 0 || e != api.ErrUtf8 || at >= len(b) || !utf8.Valid(b[:at]) {
				t.Fatalf("Read(%x): %x, %d, %v", b, l, at, e)
			}
			if _, size := runes.One(b[at:]); size != 0 {
				t.Fatalf("Read(%x): at %d a sign begins", b, at)
			}
			return
		}
		if again, e := runes.Write(l); !bytes.Equal(again, b) || e != api.OK || at != 0 {
			t.Fatalf("Read(%x): %x, %d, written %x, %v", b, l, at, again, e)
		}
	})
}

// TestNothingBehind: R3, what lies behind a list's length would change the answer, were it read.
func TestNothingBehind(t *testing.T) {
	if n, size := runes.One(within("\xe2\x8d", "\xb3")); n != 0 || size != 0 {
		t.Errorf("One read behind the end: %x, %d", n, size)
	}
	if n, size := runes.One(within("", "a")); n != 0 || size != 0 {
		t.Errorf("One read behind no bytes: %x, %d", n, size)
	}
	if l, at, e := runes.Read(within("a\xe2\x8d", "\xb3")); len(l) != 0 || at != 1 || e != api.ErrUtf8 {
		t.Errorf("Read read behind the end: %x, %d, %v", l, at, e)
	}
	if b, e := runes.Write([]int64{0x61, -1}[:1]); string(b) != "a" || e != api.OK {
		t.Errorf("Write read behind the end: %x, %v", b, e)
	}
}

// TestUnchanged: R3, what is handed in stays as it was, and answers are new memory with nothing behind them.
func TestUnchanged(t *testing.T) {
	l := []int64{0x61, 0x2373, 0xd7, 0x10ffff, 0}
	b, _ := runes.Write(l)
	again, _ := runes.Write(l)
	want := bytes.Clone(b)
	back, _, _ := runes.Read(b)
	back2, _, _ := runes.Read(b)
	if !slices.Equal(l, []int64{0x61, 0x2373, 0xd7, 0x10ffff, 0}) || !bytes.Equal(b, want) {
		t.Errorf("changed: %x, %x", l, b)
	}
	if cap(b) != len(b) || cap(back) != len(back) {
		t.Errorf("room behind the answers: %d of %d, %d of %d", len(b), cap(b), len(back), cap(back))
	}
	clear(b)
	clear(back)
	if !bytes.Equal(again, want) || !slices.Equal(back2, l) || !slices.Equal(l, []int64{0x61, 0x2373, 0xd7, 0x10ffff, 0}) {
		t.Errorf("shared: %x, %x, %x", again, back2, l)
	}
}
