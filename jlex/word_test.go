package jlex_test

import (
	"fmt"
	"slices"
	"strings"
	"testing"

	"triglyph/api"
	"triglyph/jlex"
)

// sameText is a word that is always the same.
type sameText struct{ kind, text string }

// sames are 13.3's words.
func sames() []sameText {
	lists := [][2]string{
		{"set", "=:"},
		{"open", "{{ ("},
		{"close", "}} )"},
		{"sign", `-. |. |: <. <: >. >: ~. ~: ,: /: \: {. }. ^: - * | % + < > = ~ $ # , / \ { "1`},
	}
	var out []sameText
	for _, l := range lists {
		for _, w := range strings.Fields(l[1]) {
			out = append(out, sameText{l[0], w})
		}
	}
	return out
}

// TestSame: 13.3, each word alone, and behind blanks.
func TestSame(t *testing.T) {
	if n := len(sames()); n != 36 {
		t.Errorf("the test's own list has %d words", n)
	}
	for _, w := range sames() {
		texts{
			{w.text, w.kind + " " + w.text + " 0"},
			{"  " + w.text + " ", w.kind + " " + w.text + " 2"},
		}.check(t)
	}
}

// beside are words of each kind, that may stand right beside a word that is always the same.
func beside() []sameText {
	return append(sames(), sameText{"num 12", "12"}, sameText{"num -3", "_3"}, sameText{"num [1 -2]", "1 _2"}, sameText{"text []", "''"}, sameText{"text c97", "'a'"},
		sameText{"name ab1", "ab1"}, sameText{"name w", "w"}, sameText{"name x", "x"}, sameText{"sign i.", "i."}, sameText{"sign e.", "e."})
}

// said is a word and where it begins.
func (w sameText) said(at int) string {
	if strings.Contains(w.kind, " ") {
		return fmt.Sprintf("%s %d", w.kind, at)
	}
	return fmt.Sprintf("%s %s %d", w.kind, w.text, at)
}

// melts tells whether two words right beside each other are others: just { ahead of another {, and "1 ahead of a digit.
func melts(a, b string) bool {
	return a == "{" && b[0] == '{' || a == `"1` && strings.ContainsRune("0123456789", rune(b[0]))
}

// TestBeside: 13.3, each word right beside each other one, on either side, and with blanks between.
func TestBeside(t *testing.T) {
	for _, a := range beside() {
		for _, b := range sames() {
			texts{
				{a.text + "  " + b.text, a.said(0) + "; " + b.said(len(a.text)+2)},
				{b.text + " " + a.text, b.said(0) + "; " + a.said(len(b.text)+1)},
			}.check(t)
			if !melts(a.text, b.text) {
				texts{{a.text + b.text, a.said(0) + "; " + b.said(len(a.text))}}.check(t)
			}
			if !melts(b.text, a.text) {
				texts{{b.text + a.text, b.said(0) + "; " + a.said(len(b.text))}}.check(t)
			}
		}
	}
}

// TestTwo: 13.3, every two bytes below 128 that are a word, or of which the first one is, or neither.
func TestTwo(t *testing.T) {
	all := sames()
	for a := byte(33); a < 127; a++ {
		if strings.IndexByte("abcdefghijklmnopqrstuvwxyz0123456789'_", a) >= 0 {
			continue
		}
		for b := byte(33); b < 127; b++ {
			s := string([]byte{a, b})
			want := "syntax at 0"
			if i := slices.IndexFunc(all, func(w sameText) bool { return w.text == s }); i >= 0 {
				want = all[i].said(0)
			} else if i := slices.IndexFunc(all, func(w sameText) bool { return w.text == s[:1] }); i >= 0 {
				want = all[i].said(0)
				if behind, f := jlex.Lex(s[1:]); f.Err == api.OK {
					behind[0].At++
					want += "; " + sayAll(behind, f)
				} else {
					want = "syntax at 1"
				}
			}
			if got := lex(s); got != want {
				t.Errorf("%q: %s; want %s", s, got, want)
			}
		}
	}
}

// TestLongest: 13.3, a word of two bytes goes ahead of one of one, from the left.
func TestLongest(t *testing.T) {
	texts{
		{"==:", "sign = 0; set =: 1"},
		{"=:=", "set =: 0; sign = 2"},
		{"=:=:", "set =: 0; set =: 2"},
		{"=.", "syntax at 1"},
		{"=::", "syntax at 2"},
		{"{{{", "open {{ 0; sign { 2"},
		{"{{{{", "open {{ 0; open {{ 2"},
		{"{{{{{", "open {{ 0; open {{ 2; sign { 4"},
		{"{ {{", "sign { 0; open {{ 2"},
		{"{{ {", "open {{ 0; sign { 3"},
		{"{{.", "syntax at 2"},
		{"{{{.", "open {{ 0; sign {. 2"},
		{"{.{", "sign {. 0; sign { 2"},
		{"{.{{", "sign {. 0; open {{ 2"},
		{"{:", "syntax at 1"},
		{"{}}", "sign { 0; close }} 1"},
		{"{}.", "sign { 0; sign }. 1"},
		{"{}", "syntax at 1"},
		{"}", "syntax at 0"},
		{"}}}", "syntax at 2"},
		{"}}}}", "close }} 0; close }} 2"},
		{"}}}.", "close }} 0; sign }. 2"},
		{"}}.", "syntax at 2"},
		{"}.}}", "sign }. 0; close }} 2"},
		{"}.}", "syntax at 2"},
		{"}:", "syntax at 0"},
		{"{{}}", "open {{ 0; close }} 2"},
		{"^", "syntax at 0"},
		{"^.", "syntax at 0"},
		{"^:^:", "sign ^: 0; sign ^: 2"},
		{"<<.", "sign < 0; sign <. 1"},
		{"<.<", "sign <. 0; sign < 2"},
		{"<.:", "syntax at 2"},
		{"<..", "syntax at 2"},
		{"|.|:|", "sign |. 0; sign |: 2; sign | 4"},
		{"/:/\\:\\", `sign /: 0; sign / 2; sign \: 3; sign \ 5`},
		{"/.", "syntax at 1"},
		{"\\.", "syntax at 1"},
		{",.", "syntax at 1"},
		{"-:", "syntax at 1"},
		{"*.", "syntax at 1"},
		{"*:", "syntax at 1"},
		{"%:", "syntax at 1"},
		{"+.", "syntax at 1"},
		{"$.", "syntax at 1"},
		{"#:", "syntax at 1"},
		{".", "syntax at 0"},
		{":", "syntax at 0"},
		{"(.", "syntax at 1"},
		{"< .", "syntax at 2"},
		{"=.:", "syntax at 1"},
		{"a.=:", "syntax at 0"},
	}.check(t)
}

// TestLastAxis: 13.3, "1 with a digit behind it, and without.
func TestLastAxis(t *testing.T) {
	texts{
		{`"1`, `sign "1 0`},
		{` "1 `, `sign "1 1`},
		{`"1 2`, `sign "1 0; num 2 3`},
		{`"1 1 2`, `sign "1 0; num [1 2] 3`},
		{`"1_2`, `sign "1 0; num -2 2`},
		{`"1a`, `sign "1 0; name a 2`},
		{`"1i.`, `sign "1 0; sign i. 2`},
		{`"1x`, `sign "1 0; name x 2`},
		{`"1"1`, `sign "1 0; sign "1 2`},
		{`"1'1'`, `sign "1 0; text c49 2`},
		{`+/"1(1)`, `sign + 0; sign / 1; sign "1 2; open ( 4; num 1 5; close ) 6`},
		{`1"1`, `num 1 0; sign "1 1`},
		{`1 2 "1 3`, `num [1 2] 0; sign "1 4; num 3 7`},
		{`a"1`, `name a 0; sign "1 1`},
		{`"1.`, "syntax at 2"},
		{`"1:`, "syntax at 2"},
		{`"1٣`, "syntax at 2"},
		{"\"1\xff", "utf8 at 2"},
		{`"`, "syntax at 0"},
		{`" 1`, "syntax at 0"},
		{`"a`, "syntax at 0"},
		{`""1`, "syntax at 0"},
		{`"_1`, "syntax at 0"},
		{`+"`, "syntax at 1"},
		{`"1"`, "syntax at 2"},
		{`"1"2`, "syntax at 2"},
	}.check(t)
	for c := '0'; c <= '9'; c++ {
		texts{
			{`"1` + string(c), "syntax at 0"},
			{`"1` + string(c) + " ", "syntax at 0"},
			{`+/"1` + string(c) + "a", "syntax at 2"},
			{`"1 ` + string(c), fmt.Sprintf(`sign "1 0; num %c 3`, c)},
		}.check(t)
		if c != '1' {
			texts{{`"` + string(c), "syntax at 0"}}.check(t)
		}
	}
}

// TestName: 13.2, names: their letters, how long they are, and what stands beside them.
func TestName(t *testing.T) {
	texts{
		{"a", "name a 0"},
		{"w", "name w 0"},
		{"i", "name i 0"},
		{"e", "name e 0"},
		{"abc", "name abc 0"},
		{"a1", "name a1 0"},
		{"a1b2", "name a1b2 0"},
		{"a00", "name a00 0"},
		{"  hat3", "name hat3 2"},
		{"abcdefgh", "name abcdefgh 0"},
		{"w0000000", "name w0000000 0"},
		{"abcdefgh ijklmnop", "name abcdefgh 0; name ijklmnop 9"},
		{"abcdefgh+", "name abcdefgh 0; sign + 8"},
		{"abcdefghi", "syntax at 0"},
		{"abcdefgh1", "syntax at 0"},
		{"w00000000", "syntax at 0"},
		{"a abcdefghi", "syntax at 2"},
		{"<:abcdefghi+1", "syntax at 2"},
		{"(abcdefghi&", "syntax at 1"},
		{strings.Repeat("w", api.MaxText), "syntax at 0"},
		// A number right behind a name is part of it, a name right behind a number is not.
		{"a12", "name a12 0"},
		{"a 12", "name a 0; num 12 2"},
		{"12a", "num 12 0; name a 2"},
		{"12a3 4", "num 12 0; name a3 2; num 4 5"},
		{"1a 2", "num 1 0; name a 1; num 2 3"},
		{"1x2", "syntax at 1"},
		{"1x 2", "num 1 0; name x 1; num 2 3"},
		{"a_1", "name a 0; num -1 1"},
		{"a'b'", "name a 0; text c98 1"},
		{"'b'a", "text c98 0; name a 3"},
		{"aA", "syntax at 1"},
		{"A", "syntax at 0"},
		{"aä", "syntax at 1"},
		{"ａ", "syntax at 0"},
		{"a٣", "syntax at 1"},
		{"a=:b", "name a 0; set =: 1; name b 3"},
		{"a=b", "name a 0; sign = 1; name b 2"},
	}.check(t)
}

// TestBehindW: 13.2, x and y alone are names of arguments; a letter behind w in a word makes none of all of it.
func TestBehindW(t *testing.T) {
	texts{
		{"x", "name x 0"},
		{"y", "name y 0"},
		{" x y ", "name x 1; name y 3"},
		{"x+y", "name x 0; sign + 1; name y 2"},
		{"x_1", "name x 0; num -1 1"},
		{"x'y'", "name x 0; text c121 1"},
		{"x=:y", "name x 0; set =: 1; name y 3"},
		{"z", "syntax at 0"},
		{"xy", "syntax at 0"},
		{"xx", "syntax at 0"},
		{"x1", "syntax at 0"},
		{"y0", "syntax at 0"},
		{"xa", "syntax at 0"},
		{"ax", "syntax at 0"},
		{"ay", "syntax at 0"},
		{"az", "syntax at 0"},
		{"ab1z", "syntax at 0"},
		{"abcdefgx", "syntax at 0"},
		{"abcdefghx", "syntax at 0"},
		{"a1x", "syntax at 0"},
		{"a z", "syntax at 2"},
		{"1z", "syntax at 1"},
		{"a+ax", "syntax at 2"},
		{"xyz", "syntax at 0"},
		{"max", "syntax at 0"},
	}.check(t)
	for c := 'a'; c <= 'z'; c++ {
		for _, s := range []string{"m" + string(c), string(c) + "m", string(c) + "1", "a1b2c3" + string(c), "abc" + string(c) + "defg"} {
			want := "name " + s + " 0"
			if c > 'w' {
				want = "syntax at 0"
			}
			texts{{s, want}}.check(t)
		}
	}
}

// TestInflected: 13.2, words of letters with a dot or a colon behind them.
func TestInflected(t *testing.T) {
	texts{
		{"i.", "sign i. 0"},
		{"e.", "sign e. 0"},
		{" i. ", "sign i. 1"},
		{"i.3", "sign i. 0; num 3 2"},
		{"i._3", "sign i. 0; num -3 2"},
		{"i. 3", "sign i. 0; num 3 3"},
		{"1i.2", "num 1 0; sign i. 1; num 2 3"},
		{"1e.2", "num 1 0; sign e. 1; num 2 3"},
		{"i.i.", "sign i. 0; sign i. 2"},
		{"i.e.i", "sign i. 0; sign e. 2; name i 4"},
		{"i.a", "sign i. 0; name a 2"},
		{"i.ab.", "syntax at 2"},
		{"'a'e.'b'", "text c97 0; sign e. 3; text c98 5"},
		{"(i.)", "open ( 0; sign i. 1; close ) 3"},
		{"i.=:", "sign i. 0; set =: 2"},
		{"i=:", "name i 0; set =: 1"},
		{"i..", "syntax at 2"},
		{"i.:", "syntax at 2"},
		{"i:", "syntax at 0"},
		{"e:", "syntax at 0"},
		{"i:.", "syntax at 0"},
		{"i::", "syntax at 0"},
		{"a:", "syntax at 0"},
		{"x.", "syntax at 0"},
		{"y:", "syntax at 0"},
		{"z.", "syntax at 0"},
		{"ab.", "syntax at 0"},
		{"ab:", "syntax at 0"},
		{"ii.", "syntax at 0"},
		{"ie.", "syntax at 0"},
		{"ai.", "syntax at 0"},
		{"i1.", "syntax at 0"},
		{"1 i1.", "syntax at 2"},
		{"1 i:", "syntax at 2"},
		{"abcdefgh.", "syntax at 0"},
		{"abcdefg.", "syntax at 0"},
		{"abcdefghi.", "syntax at 0"},
		{"a+i:3", "syntax at 2"},
		// Behind a blank it is no part of the word.
		{"i .", "syntax at 2"},
		{"a .", "syntax at 2"},
		{"i  :", "syntax at 3"},
		{"i .3", "syntax at 2"},
	}.check(t)
	for c := 'a'; c <= 'z'; c++ {
		want := "syntax at 1"
		if c == 'i' || c == 'e' {
			want = fmt.Sprintf("open ( 0; sign %c. 1; num 5 3", c)
		}
		texts{
			{"(" + string(c) + ".5", want},
			{"(" + string(c) + ":5", "syntax at 1"},
			{"(" + string(c) + string(c) + ".5", "syntax at 1"},
			{"(i" + string(c) + ".5", "syntax at 1"},
			{"(" + string(c) + "e.5", "syntax at 1"},
		}.check(t)
	}
}

// TestNameBytes: 13.2, every byte at the first place of a name, and behind a letter.
func TestNameBytes(t *testing.T) {
	for b := range 128 {
		letter := strings.ContainsRune("abcdefghijklmnopqrstuvw", rune(b))
		digit := strings.ContainsRune("0123456789", rune(b))
		s := "m" + string(rune(b)) + "m"
		if got, want := lex(s) == "name "+s+" 0", letter || digit; got != want {
			t.Errorf("%q: %s", s, lex(s))
		}
		s = string(rune(b)) + "m"
		if got := lex(s) == "name "+s+" 0"; got != letter {
			t.Errorf("%q: %s", s, lex(s))
		}
	}
}

// TestText: 13.2, texts: what is in them, and where they end.
func TestText(t *testing.T) {
	texts{
		{"''", "text [] 0"},
		{" ''", "text [] 1"},
		{"'a'", "text c97 0"},
		{"'ab'", "text [c97 c98] 0"},
		{"' '", "text c32 0"},
		{"'  '", "text [c32 c32] 0"},
		{"' a '", "text [c32 c97 c32] 0"},
		{"'1 2'", "text [c49 c32 c50] 0"},
		{"'\"'", "text c34 0"},
		{"'\"1'", "text [c34 c49] 0"},
		{"'\\'", "text c92 0"},
		{"'\\n'", "text [c92 c110] 0"},
		{"'~'", "text c126 0"},
		{"'_'", "text c95 0"},
		{"'⍳'", "text c9075 0"},
		{"'a⍳😀é'", "text [c97 c9075 c128512 c233] 0"},
		{"'NB.'", "text [c78 c66 c46] 0"},
		{"'\u0080\u009f'", "text [c128 c159] 0"},
		{"'\ufffd'", "text c65533 0"},
		{"'\U0010ffff'", "text c1114111 0"},
		{"'\uffff\ud7ff'", "text [c65535 c55295] 0"},
		// Two of the signs that end it stand for one.
		{"''''", "text c39 0"},
		{"''''''", "text [c39 c39] 0"},
		{"'it''s'", "text [c105 c116 c39 c115] 0"},
		{"'''a'", "text [c39 c97] 0"},
		{"'a'''", "text [c97 c39] 0"},
		{"'a''''b'", "text [c97 c39 c39 c98] 0"},
		{"'⍳''⍳'", "text [c9075 c39 c9075] 0"},
		// Several, and beside others.
		{"'a' 'b'", "text c97 0; text c98 4"},
		{"'' ''", "text [] 0; text [] 3"},
		{"'⍳' 'b'1", "text c9075 0; text c98 6; num 1 9"},
		{"1'a'2", "num 1 0; text c97 1; num 2 4"},
		{"1 'a' 2", "num 1 0; text c97 2; num 2 6"},
		{"('a')", "open ( 0; text c97 1; close ) 4"},
		{"'('", "text c40 0"},
	}.check(t)
}

// TestTextWrong: 13.2, texts that do not end, and signs that may not be in one.
func TestTextWrong(t *testing.T) {
	texts{
		{"'", "syntax at 0"},
		{"  '", "syntax at 2"},
		{"'a", "syntax at 0"},
		{"'''", "syntax at 0"},
		{"'a''", "syntax at 0"},
		{"'''''", "syntax at 0"},
		{"'a''b", "syntax at 0"},
		{"'a' '", "syntax at 4"},
		{"'a' 'b''", "syntax at 4"},
		{"'⍳⍳' 'b", "syntax at 9"},
		{"a+'b", "syntax at 2"},
		{"1 2 '", "syntax at 4"},
		{"aNB.'\n'", "name a 0"},
		{"a'NB.\n'", "syntax at 5"},
		{"'a\"", "syntax at 0"},
	}.check(t)
	for c := range 128 {
		s := string(rune(c))
		if c >= 32 && c != 127 {
			continue
		}
		texts{
			{"'" + s + "'", "syntax at 1"},
			{"'ab" + s + "c'", "syntax at 3"},
			{"'ab" + s + "'", "syntax at 3"},
			{"'⍳" + s + s + "'", "syntax at 4"},
			{"'''" + s + "'", "syntax at 3"},
			{"1 'a" + s + "' &", "syntax at 4"},
			{"'" + s + "\xff'", "syntax at 1"},
			{"'\xff" + s + "'", "utf8 at 1"},
			// That it does not end is named first, and told ahead.
			{"'" + s, "syntax at 0"},
			{"a 'b" + s + "c", "syntax at 2"},
			{"a 'b" + s + "''", "syntax at 2"},
			{"a 'b" + s + "\xff", "syntax at 2"},
			{"a 'b\xff" + s, "syntax at 2"},
		}.check(t)
	}
}

// TestTextSigns: 13.2, each sign from 32 on but 127 stands in a text for itself.
func TestTextSigns(t *testing.T) {
	for c := rune(0); c <= 0x10ffff; c++ {
		if c >= 0xd800 && c <= 0xdfff || c == '\'' {
			continue
		}
		l, f := jlex.Lex("'" + string(c) + "'")
		if c < 32 || c == 127 {
			if len(l) != 0 || f != (api.Fault{Err: api.ErrSyntax, At: 1}) {
				t.Errorf("%x: %v, %v", c, l, f)
			}
		} else if got, want := sayAll(l, f), fmt.Sprintf("text c%d 0", c); got != want {
			t.Errorf("%x: %s", c, got)
		}
	}
}
