package klex_test

import (
	"fmt"
	"strings"
	"testing"

	"triglyph/api"
	"triglyph/klex"
)

// sameText is a word that is always the same.
type sameText struct{ kind, text string }

// sames are 14.3's words.
func sames() []sameText {
	lists := [][2]string{
		{"set", ":"},
		{"open", "( { ["},
		{"close", ") } ]"},
		{"sign", `+ - * % & | < > = ~ ! # _ , ^ ? @ / \`},
	}
	var out []sameText
	for _, l := range lists {
		for _, w := range strings.Fields(l[1]) {
			out = append(out, sameText{l[0], w})
		}
	}
	return out
}

// said is a word and where it begins.
func (w sameText) said(at int) string {
	if strings.Contains(w.kind, " ") {
		return fmt.Sprintf("%s %d", w.kind, at)
	}
	return fmt.Sprintf("%s %s %d", w.kind, w.text, at)
}

// TestSame: 14.3, each word alone, and behind blanks; / is one just right behind another word.
func TestSame(t *testing.T) {
	if n := len(sames()); n != 26 {
		t.Errorf("the test's own list has %d words", n)
	}
	for _, w := range sames() {
		texts{{"+" + w.text, "sign + 0; " + w.said(1)}}.check(t)
		if w.text == "/" {
			texts{{"/", ""}, {"  / ", ""}}.check(t)
			continue
		}
		texts{
			{w.text, w.said(0)},
			{"  " + w.text + " ", w.said(2)},
		}.check(t)
	}
}

// beside are words of each kind, that may stand right beside a word that is always the same.
func beside() []sameText {
	return append(sames(), sameText{"num 12", "12"}, sameText{"num [1 -2]", "1 -2"}, sameText{"text []", `""`}, sameText{"text c97", `"a"`}, sameText{"text [c34 c92]", `"\"\\"`},
		sameText{"name ab1", "ab1"}, sameText{"name w", "w"}, sameText{"name x", "x"})
}

// pair holds Lex against two words behind a front of one word, right beside each other and with blanks between.
func pair(t *testing.T, a, b sameText) {
	t.Helper()
	// A word ahead keeps / from being a remark's beginning.
	const front, said = "(", "open ( 0; "
	at := len(front) + len(a.text)
	apart := said + a.said(1)
	if b.text != "/" {
		apart += "; " + b.said(at+2)
	}
	texts{{front + a.text + "  " + b.text, apart}}.check(t)
	if a.text == "-" && '0' <= b.text[0] && b.text[0] <= '9' {
		// The bracket ahead makes it the sign of that number.
		below := strings.NewReplacer("num 12", "num -12", "num [1", "num [-1").Replace(b.kind)
		texts{{front + a.text + b.text, fmt.Sprintf("%s%s 1", said, below)}}.check(t)
		return
	}
	texts{{front + a.text + b.text, said + a.said(1) + "; " + b.said(at)}}.check(t)
}

// TestBeside: 14.3, each word right beside each other one, on either side, and with blanks between.
func TestBeside(t *testing.T) {
	for _, a := range beside() {
		for _, b := range sames() {
			pair(t, a, b)
			pair(t, b, a)
		}
	}
}

// TestTwo: 14.3, every two bytes below 128: no word that is always the same has two of them.
func TestTwo(t *testing.T) {
	kind := map[byte]string{}
	for _, w := range sames() {
		kind[w.text[0]] = w.kind
	}
	for a := range kind {
		if a == '/' {
			continue
		}
		for b := byte(33); b < 127; b++ {
			if strings.IndexByte("abcdefghijklmnopqrstuvwxyz0123456789", b) >= 0 {
				continue
			}
			want := "syntax at 1"
			if k := kind[b]; k != "" {
				want = fmt.Sprintf("%s %c 0; %s %c 1", kind[a], a, k, b)
			}
			texts{{string([]byte{a, b}), want}}.check(t)
		}
	}
}

// TestName: 14.2, names: their letters, how long they are, and what stands beside them.
func TestName(t *testing.T) {
	texts{
		{"a", "name a 0"},
		{"w", "name w 0"},
		{"abc", "name abc 0"},
		{"a1", "name a1 0"},
		{"a1b2", "name a1b2 0"},
		{"a00", "name a00 0"},
		{"  hat3", "name hat3 2"},
		{"abcdefgh", "name abcdefgh 0"},
		{"w0000000", "name w0000000 0"},
		{"abcdefgh ijklmnop", "name abcdefgh 0; name ijklmnop 9"},
		{"abcdefgh+", "name abcdefgh 0; sign + 8"},
		{"abcdefghi", "syntax at 0"},
		{"abcdefgh1", "syntax at 0"},
		{"w00000000", "syntax at 0"},
		{"a abcdefghi", "syntax at 2"},
		{"! abcdefghi+1", "syntax at 2"},
		{"(abcdefghi$", "syntax at 1"},
		{strings.Repeat("w", api.MaxText), "syntax at 0"},
		// A number right behind a name is part of it, a name right behind a number is not.
		{"a12", "name a12 0"},
		{"a 12", "name a 0; num 12 2"},
		{"12a", "num 12 0; name a 2"},
		{"-12a", "num -12 0; name a 3"},
		{"12a3 4", "num 12 0; name a3 2; num 4 5"},
		{"1a 2", "num 1 0; name a 1; num 2 3"},
		{"1x2", "syntax at 1"},
		{"1x 2", "num 1 0; name x 1; num 2 3"},
		{"a-1", "name a 0; sign - 1; num 1 2"},
		{"a_1", "name a 0; sign _ 1; num 1 2"},
		{"a_b", "name a 0; sign _ 1; name b 2"},
		{`a"b"`, "name a 0; text c98 1"},
		{`"b"a`, "text c98 0; name a 3"},
		{"a.b", "syntax at 1"},
		{"i.", "syntax at 1"},
		{"aA", "syntax at 1"},
		{"A", "syntax at 0"},
		{"aä", "syntax at 1"},
		{"ａ", "syntax at 0"},
		{"a٣", "syntax at 1"},
		{"a:b", "name a 0; set : 1; name b 2"},
		{"a::b", "name a 0; set : 1; set : 2; name b 3"},
		{"a=:b", "name a 0; sign = 1; set : 2; name b 3"},
	}.check(t)
}

// TestBehindW: 14.2, x and y alone are names of arguments; a letter behind w in a word makes none of all of it.
func TestBehindW(t *testing.T) {
	texts{
		{"x", "name x 0"},
		{"y", "name y 0"},
		{" x y ", "name x 1; name y 3"},
		{"x+y", "name x 0; sign + 1; name y 2"},
		{"{x}", "open { 0; name x 1; close } 2"},
		{`x"y"`, "name x 0; text c121 1"},
		{"x:y", "name x 0; set : 1; name y 2"},
		{"z", "syntax at 0"},
		{"xy", "syntax at 0"},
		{"xx", "syntax at 0"},
		{"yx", "syntax at 0"},
		{"x1", "syntax at 0"},
		{"y0", "syntax at 0"},
		{"z1", "syntax at 0"},
		{"xa", "syntax at 0"},
		{"ya", "syntax at 0"},
		{"za", "syntax at 0"},
		{"ax", "syntax at 0"},
		{"ay", "syntax at 0"},
		{"az", "syntax at 0"},
		{"ab1z", "syntax at 0"},
		{"abcdefgx", "syntax at 0"},
		{"abcdefghx", "syntax at 0"},
		{"a1x", "syntax at 0"},
		{"a z", "syntax at 2"},
		{"1z", "syntax at 1"},
		{"a+ax", "syntax at 2"},
		{"x x1", "syntax at 2"},
		{"z-1", "syntax at 0"},
		{"xyz", "syntax at 0"},
		{"max", "syntax at 0"},
	}.check(t)
	for c := 'a'; c <= 'z'; c++ {
		for _, s := range []string{"m" + string(c), string(c) + "m", string(c) + "1", "a1b2c3" + string(c), "abc" + string(c) + "defg"} {
			want := "name " + s + " 0"
			if c > 'w' {
				want = "syntax at 0"
			}
			texts{{s, want}}.check(t)
		}
	}
}

// TestNameBytes: 14.2, every byte at the first place of a name, and behind a letter.
func TestNameBytes(t *testing.T) {
	for b := range 128 {
		letter := strings.ContainsRune("abcdefghijklmnopqrstuvw", rune(b))
		digit := strings.ContainsRune("0123456789", rune(b))
		s := "m" + string(rune(b)) + "m"
		if got, want := lex(s) == "name "+s+" 0", letter || digit; got != want {
			t.Errorf("%q: %s", s, lex(s))
		}
		s = string(rune(b)) + "m"
		if got := lex(s) == "name "+s+" 0"; got != letter {
			t.Errorf("%q: %s", s, lex(s))
		}
	}
}

// TestText: 14.2, texts: what is in them, and where they end.
func TestText(t *testing.T) {
	texts{
		{`""`, "text [] 0"},
		{` ""`, "text [] 1"},
		{`"a"`, "text c97 0"},
		{`"ab"`, "text [c97 c98] 0"},
		{`" "`, "text c32 0"},
		{`"  "`, "text [c32 c32] 0"},
		{`" a "`, "text [c32 c97 c32] 0"},
		{`"1 2"`, "text [c49 c32 c50] 0"},
		{`"'"`, "text c39 0"},
		{`"''"`, "text [c39 c39] 0"},
		{`"~"`, "text c126 0"},
		{`"-"`, "text c45 0"},
		{`"/"`, "text c47 0"},
		{`"⍳"`, "text c9075 0"},
		{`"a⍳😀é"`, "text [c97 c9075 c128512 c233] 0"},
		{"\"\u0080\u009f\"", "text [c128 c159] 0"},
		{"\"\ufffd\"", "text c65533 0"},
		{"\"\U0010ffff\"", "text c1114111 0"},
		{"\"\uffff\ud7ff\"", "text [c65535 c55295] 0"},
		// Several, and beside others; two of the signs that end it stand for none.
		{`"a" "b"`, "text c97 0; text c98 4"},
		{`"" ""`, "text [] 0; text [] 3"},
		{`""""`, "text [] 0; text [] 2"},
		{`"a""b"`, "text c97 0; text c98 3"},
		{`"⍳" "b"1`, "text c9075 0; text c98 6; num 1 9"},
		{`1"a"2`, "num 1 0; text c97 1; num 2 4"},
		{`1 "a" 2`, "num 1 0; text c97 2; num 2 6"},
		{`("a")`, "open ( 0; text c97 1; close ) 4"},
		{`"("`, "text c40 0"},
	}.check(t)
}

// TestEscape: 14.2, what stands in a text for the sign that ends it, and for the one that does so itself.
func TestEscape(t *testing.T) {
	texts{
		{`"\""`, "text c34 0"},
		{`"\\"`, "text c92 0"},
		{`"\"\""`, "text [c34 c34] 0"},
		{`"\\\\"`, "text [c92 c92] 0"},
		{`"\\\""`, "text [c92 c34] 0"},
		{`"\"\\"`, "text [c34 c92] 0"},
		{`"a\"b"`, "text [c97 c34 c98] 0"},
		{`"a\\b"`, "text [c97 c92 c98] 0"},
		{`"\"a"`, "text [c34 c97] 0"},
		{`"a\""`, "text [c97 c34] 0"},
		{`"⍳\"⍳\\"`, "text [c9075 c34 c9075 c92] 0"},
		{`"\\n"`, "text [c92 c110] 0"},
		{`"\\" "a"`, "text c92 0; text c97 5"},
		{`"\\"\"a"`, `text c92 0; sign \ 4; text c97 5`},
		{`"\"" "\""`, "text c34 0; text c34 5"},
		// Out of a text it is a word of its own.
		{`\`, `sign \ 0`},
		{`\\`, `sign \ 0; sign \ 1`},
		{`\""`, `sign \ 0; text [] 1`},
		{`+\"a"`, `sign + 0; sign \ 1; text c97 2`},
		// Any other is refused, where it stands.
		{`"\n"`, "syntax at 1"},
		{`"a\n"`, "syntax at 2"},
		{`"ab\ "`, "syntax at 3"},
		{`"\'"`, "syntax at 1"},
		{`"\/"`, "syntax at 1"},
		{`"\0"`, "syntax at 1"},
		{`"\⍳"`, "syntax at 1"},
		{`"⍳\⍳"`, "syntax at 4"},
		{`"\\\n"`, "syntax at 3"},
		{`"\"\n"`, "syntax at 3"},
		{`"\n\""`, "syntax at 1"},
		{`"\n\\"`, "syntax at 1"},
		{`"\n\m"`, "syntax at 1"},
		{`1 "a" "b\c"`, "syntax at 8"},
		{`"\"`, "syntax at 0"},
	}.check(t)
}

// TestEscapeBytes: 14.2, each sign below 128, and some of more bytes, behind \ in a text.
func TestEscapeBytes(t *testing.T) {
	signs := []rune{0x80, 0xe9, '⍳', 0xfffd, '😀'}
	for c := range rune(128) {
		signs = append(signs, c)
	}
	for _, c := range signs {
		s := "\"ab\\" + string(c) + "d\""
		want := "syntax at 3"
		if c == '"' || c == '\\' {
			want = fmt.Sprintf("text [c97 c98 c%d c100] 0", c)
		}
		texts{{s, want}}.check(t)
	}
}

// TestTextWrong: 14.2, texts that do not end, and signs that may not be in one.
func TestTextWrong(t *testing.T) {
	texts{
		{`"`, "syntax at 0"},
		{`  "`, "syntax at 2"},
		{`"a`, "syntax at 0"},
		{`"""`, "syntax at 2"},
		{`"a""`, "syntax at 3"},
		{`"a" "`, "syntax at 4"},
		{`"a" "b""`, "syntax at 7"},
		{`"⍳⍳" "b`, "syntax at 9"},
		{`a+"b`, "syntax at 2"},
		{`1 2 "`, "syntax at 4"},
		{`"a'`, "syntax at 0"},
		{"a /\"\n\"", "name a 0"},
		{"a\" /\n\"", "syntax at 4"},
		// Those that end in \ or in \" do not end.
		{`"\`, "syntax at 0"},
		{`"a\`, "syntax at 0"},
		{`"\"`, "syntax at 0"},
		{`"a\"`, "syntax at 0"},
		{`"\\`, "syntax at 0"},
		{`"\\\`, "syntax at 0"},
		{`"\\\"`, "syntax at 0"},
		{`"\"\"`, "syntax at 0"},
		{`a "b\"`, "syntax at 2"},
		{`a "b\" "`, "name a 0; text [c98 c34 c32] 2"},
		{`"a" "b\"`, "syntax at 4"},
		{`"a\n\"`, "syntax at 0"},
		{`"a\n`, "syntax at 0"},
	}.check(t)
	for c := range 128 {
		s := string(rune(c))
		if c >= 32 && c != 127 {
			continue
		}
		texts{
			{`"` + s + `"`, "syntax at 1"},
			{`"ab` + s + `c"`, "syntax at 3"},
			{`"ab` + s + `"`, "syntax at 3"},
			{`"⍳` + s + s + `"`, "syntax at 4"},
			{`"\"` + s + `"`, "syntax at 3"},
			{`"` + s + `\""`, "syntax at 1"},
			{`"a\` + s + `"`, "syntax at 2"},
			{`1 "a` + s + `" $`, "syntax at 4"},
			{`"` + s + "\xff\"", "syntax at 1"},
			{"\"\xff" + s + `"`, "utf8 at 1"},
			// That it does not end is named first, and told ahead.
			{`"` + s, "syntax at 0"},
			{`a "b` + s + "c", "syntax at 2"},
			{`a "b` + s + `\"`, "syntax at 2"},
			{`a "b` + s + "\xff", "syntax at 2"},
			{"a \"b\xff" + s, "syntax at 2"},
			{`a "b\` + s, "syntax at 2"},
		}.check(t)
	}
}

// TestTextSigns: 14.2, each sign from 32 on but 127 and \ stands in a text for itself.
func TestTextSigns(t *testing.T) {
	for c := rune(0); c <= 0x10ffff; c++ {
		if c >= 0xd800 && c <= 0xdfff || c == '"' || c == '\\' {
			continue
		}
		l, f := klex.Lex("\"" + string(c) + "\"")
		if c < 32 || c == 127 {
			if len(l) != 0 || f != (api.Fault{Err: api.ErrSyntax, At: 1}) {
				t.Errorf("%x: %v, %v", c, l, f)
			}
		} else if got, want := sayAll(l, f), fmt.Sprintf("text c%d 0", c); got != want {
			t.Errorf("%x: %s", c, got)
		}
	}
}
