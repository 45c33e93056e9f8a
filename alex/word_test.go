package alex_test

import (
	"fmt"
	"strings"
	"testing"

	"triglyph/alex"
	"triglyph/api"
)

// sameText is a word that is always the same.
type sameText struct{ kind, text string }

// sames are 12.3's words, by their signs' numbers, so that none that looks like another one is taken for it.
func sames() []sameText {
	lists := []struct {
		kind  string
		words [][]rune
	}{
		{"name", [][]rune{{0x2395, 'I', 'O'}, {0x237a}, {0x2375}}},
		{"set", [][]rune{{0x2190}}},
		{"open", [][]rune{{0x28}, {0x7b}, {0x5b}}},
		{"close", [][]rune{{0x29}, {0x7d}, {0x5d}}},
		{"sign", [][]rune{
			{0x2b}, {0x2d}, {0xd7}, {0x7c}, {0x7e}, {0x2373}, {0x2374}, {0x2262}, {0x2c}, {0x2296}, {0x233d}, {0x2349}, {0x234b}, {0x2352}, {0x222a}, {0x2282}, {0x2283}, {0xf7}, {0x230a}, {0x2308},
			{0x3d}, {0x2260}, {0x3c}, {0x3e}, {0x2264}, {0x2265}, {0x2191}, {0x2193}, {0x236a}, {0x220a}, {0x233f}, {0x2f}, {0x5c}, {0x2340}, {0x2337}, {0x2368}, {0x2363}, {0x22c4}, {0x2218, 0x2e},
		}},
	}
	var out []sameText
	for _, l := range lists {
		for _, w := range l.words {
			out = append(out, sameText{l.kind, string(w)})
		}
	}
	return out
}

// TestSame: 12.3, each word alone, and behind blanks.
func TestSame(t *testing.T) {
	if n := len(sames()); n != 49 {
		t.Errorf("the test's own list has %d words", n)
	}
	for _, w := range sames() {
		texts{
			{w.text, w.kind + " " + w.text + " 0"},
			{"  " + w.text + " ", w.kind + " " + w.text + " 2"},
		}.check(t)
	}
}

// beside are words of each kind, that may stand right beside a word that is always the same.
func beside() []sameText {
	return append(sames(), sameText{"num 12", "12"}, sameText{"num -3", "¯3"}, sameText{"num [1 -2]", "1 ¯2"}, sameText{"text []", "''"}, sameText{"text c97", "'a'"}, sameText{"name ab1", "ab1"}, sameText{"name w", "w"})
}

// said is a word and where it begins.
func (w sameText) said(at int) string {
	if strings.HasPrefix(w.kind, "num") || strings.HasPrefix(w.kind, "text") || strings.HasPrefix(w.kind, "name ") {
		return fmt.Sprintf("%s %d", w.kind, at)
	}
	return fmt.Sprintf("%s %s %d", w.kind, w.text, at)
}

// TestBeside: 12.3, each word right beside each other one, on either side, and with blanks between.
func TestBeside(t *testing.T) {
	for _, a := range beside() {
		for _, b := range sames() {
			texts{
				{a.text + b.text, a.said(0) + "; " + b.said(len(a.text))},
				{b.text + a.text, b.said(0) + "; " + a.said(len(b.text))},
				{a.text + "  " + b.text, a.said(0) + "; " + b.said(len(a.text)+2)},
				{b.text + a.text + b.text, b.said(0) + "; " + a.said(len(b.text)) + "; " + b.said(len(b.text)+len(a.text))},
			}.check(t)
		}
	}
}

// TestLongSames: 12.3, words of more than one sign, whole and in part.
func TestLongSames(t *testing.T) {
	texts{
		{"⎕IO⎕IO", "name ⎕IO 0; name ⎕IO 5"},
		{"⎕IOa", "name ⎕IO 0; name a 5"},
		{"⎕IO1", "name ⎕IO 0; num 1 5"},
		{"a⎕IO", "name a 0; name ⎕IO 1"},
		{"⎕", "syntax at 0"},
		{"⎕I", "syntax at 0"},
		{"⎕i", "syntax at 0"},
		{"⎕io", "syntax at 0"},
		{"⎕Io", "syntax at 0"},
		{"⎕ IO", "syntax at 0"},
		{"⎕I O", "syntax at 0"},
		{"⎕AI", "syntax at 0"},
		{"IO", "syntax at 0"},
		{"⎕IOO", "syntax at 5"},
		{"⎕IO.", "syntax at 5"},
		{"∘.×", "sign ∘. 0; sign × 4"},
		{"∘.∘.", "sign ∘. 0; sign ∘. 4"},
		{"a∘.=b", "name a 0; sign ∘. 1; sign = 5; name b 6"},
		{"∘", "syntax at 0"},
		{"∘ .", "syntax at 0"},
		{"∘×", "syntax at 0"},
		{"∘..", "syntax at 4"},
		{".", "syntax at 0"},
		{".×", "syntax at 0"},
		{"+.×", "syntax at 1"},
		{"1.5", "syntax at 1"},
	}.check(t)
}

// TestName: 12.2, names: their letters, how long they are, and what stands beside them.
func TestName(t *testing.T) {
	texts{
		{"a", "name a 0"},
		{"w", "name w 0"},
		{"abc", "name abc 0"},
		{"a1", "name a1 0"},
		{"a1b2", "name a1b2 0"},
		{"a00", "name a00 0"},
		{"  hat3", "name hat3 2"},
		{"abcdefgh", "name abcdefgh 0"},
		{"w0000000", "name w0000000 0"},
		{"abcdefgh ijklmnop", "name abcdefgh 0; name ijklmnop 9"},
		{"abcdefgh⍵", "name abcdefgh 0; name ⍵ 8"},
		{"abcdefghi", "syntax at 0"},
		{"abcdefgh1", "syntax at 0"},
		{"w00000000", "syntax at 0"},
		{"a abcdefghi", "syntax at 2"},
		{"⍳abcdefghi+1", "syntax at 3"},
		{"(abcdefghi$", "syntax at 1"},
		{strings.Repeat("w", api.MaxText), "syntax at 0"},
		// A number right behind a name is part of it, a name right behind a number is not.
		{"a12", "name a12 0"},
		{"a 12", "name a 0; num 12 2"},
		{"12a", "num 12 0; name a 2"},
		{"12a3 4", "num 12 0; name a3 2; num 4 5"},
		{"1a 2", "num 1 0; name a 1; num 2 3"},
		{"a¯1", "name a 0; num -1 1"},
		{"a'b'", "name a 0; text c98 1"},
		{"'b'a", "text c98 0; name a 3"},
		{"a⍺b⍵c", "name a 0; name ⍺ 1; name b 4; name ⍵ 5; name c 8"},
		// Letters behind w are of no name.
		{"x", "syntax at 0"},
		{"y", "syntax at 0"},
		{"z", "syntax at 0"},
		{"ax", "syntax at 1"},
		{"ab1z", "syntax at 3"},
		{"a x", "syntax at 2"},
		{"abcdefghx", "syntax at 8"},
		{"abcdefghix", "syntax at 0"},
		{"xa", "syntax at 0"},
		{"1x", "syntax at 1"},
		{"aA", "syntax at 1"},
		{"A", "syntax at 0"},
		{"a_b", "syntax at 1"},
		{"aä", "syntax at 1"},
		{"ａ", "syntax at 0"},
		{"a٣", "syntax at 1"},
	}.check(t)
}

// TestNameBytes: 12.2, every byte at the first place of a name, and behind a letter.
func TestNameBytes(t *testing.T) {
	for b := range 128 {
		letter := strings.ContainsRune("abcdefghijklmnopqrstuvw", rune(b))
		digit := strings.ContainsRune("0123456789", rune(b))
		s := "m" + string(rune(b)) + "m"
		if got, want := lex(s) == "name "+s+" 0", letter || digit; got != want {
			t.Errorf("%q: %s", s, lex(s))
		}
		s = string(rune(b)) + "m"
		if got := lex(s) == "name "+s+" 0"; got != letter {
			t.Errorf("%q: %s", s, lex(s))
		}
	}
}

// TestText: 12.2, texts: what is in them, and where they end.
func TestText(t *testing.T) {
	texts{
		{"''", "text [] 0"},
		{" ''", "text [] 1"},
		{"'a'", "text c97 0"},
		{"'ab'", "text [c97 c98] 0"},
		{"' '", "text c32 0"},
		{"'  '", "text [c32 c32] 0"},
		{"' a '", "text [c32 c97 c32] 0"},
		{"'1 2'", "text [c49 c32 c50] 0"},
		{"'\"'", "text c34 0"},
		{"'\\'", "text c92 0"},
		{"'~'", "text c126 0"},
		{"'⍳'", "text c9075 0"},
		{"'a⍳😀é'", "text [c97 c9075 c128512 c233] 0"},
		{"'⍝'", "text c9053 0"},
		{"'a⍝b'", "text [c97 c9053 c98] 0"},
		{"'\u0080\u009f'", "text [c128 c159] 0"},
		{"'\ufffd'", "text c65533 0"},
		{"'\U0010ffff'", "text c1114111 0"},
		{"'\uffff\ud7ff'", "text [c65535 c55295] 0"},
		// Two of the signs that end it stand for one.
		{"''''", "text c39 0"},
		{"''''''", "text [c39 c39] 0"},
		{"'it''s'", "text [c105 c116 c39 c115] 0"},
		{"'''a'", "text [c39 c97] 0"},
		{"'a'''", "text [c97 c39] 0"},
		{"'a''''b'", "text [c97 c39 c39 c98] 0"},
		{"'⍳''⍳'", "text [c9075 c39 c9075] 0"},
		// Several, and beside others.
		{"'a' 'b'", "text c97 0; text c98 4"},
		{"'' ''", "text [] 0; text [] 3"},
		{"'⍳' 'b'1", "text c9075 0; text c98 6; num 1 9"},
		{"1'a'2", "num 1 0; text c97 1; num 2 4"},
		{"1 'a' 2", "num 1 0; text c97 2; num 2 6"},
		{"('a')", "open ( 0; text c97 1; close ) 4"},
		{"'('", "text c40 0"},
	}.check(t)
}

// TestTextWrong: 12.2, texts that do not end, and signs that may not be in one.
func TestTextWrong(t *testing.T) {
	texts{
		{"'", "syntax at 0"},
		{"  '", "syntax at 2"},
		{"'a", "syntax at 0"},
		{"'''", "syntax at 0"},
		{"'a''", "syntax at 0"},
		{"'''''", "syntax at 0"},
		{"'a''b", "syntax at 0"},
		{"'a' '", "syntax at 4"},
		{"'a' 'b''", "syntax at 4"},
		{"'⍳⍳' 'b", "syntax at 9"},
		{"a+'b", "syntax at 2"},
		{"1 2 '", "syntax at 4"},
		{"a⍝'\n'", "name a 0"},
		{"a'⍝\n'", "syntax at 5"},
	}.check(t)
	for c := range 256 {
		s := string(rune(c))
		if c >= 32 && c != 127 || c == '\'' {
			continue
		}
		texts{
			{"'" + s + "'", "syntax at 1"},
			{"'ab" + s + "c'", "syntax at 3"},
			{"'ab" + s + "'", "syntax at 3"},
			{"'⍳" + s + s + "'", "syntax at 4"},
			{"'''" + s + "'", "syntax at 3"},
			{"1 'a" + s + "' $", "syntax at 4"},
			{"'" + s + "\xff'", "syntax at 1"},
			{"'\xff" + s + "'", "utf8 at 1"},
			// That it does not end is named first, and told ahead.
			{"'" + s, "syntax at 0"},
			{"a 'b" + s + "c", "syntax at 2"},
			{"a 'b" + s + "''", "syntax at 2"},
			{"a 'b" + s + "\xff", "syntax at 2"},
			{"a 'b\xff" + s, "syntax at 2"},
		}.check(t)
	}
}

// TestTextSigns: 12.2, each sign from 32 on but 127 stands in a text for itself.
func TestTextSigns(t *testing.T) {
	for c := rune(0); c <= 0x10ffff; c++ {
		if c >= 0xd800 && c <= 0xdfff || c == '\'' {
			continue
		}
		l, f := alex.Lex("'" + string(c) + "'")
		if c < 32 || c == 127 {
			if len(l) != 0 || f != (api.Fault{Err: api.ErrSyntax, At: 1}) {
				t.Errorf("%x: %v, %v", c, l, f)
			}
		} else if got, want := sayAll(l, f), fmt.Sprintf("text c%d 0", c); got != want {
			t.Errorf("%x: %s", c, got)
		}
	}
}
