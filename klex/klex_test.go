package klex_test

import (
	"fmt"
	"strings"
	"testing"

	"triglyph/api"
	"triglyph/arr"
	"triglyph/klex"
)

// kinds are the words' kinds by their names here.
func kinds() map[int]string {
	return map[int]string{api.TNum: "num", api.TText: "text", api.TName: "name", api.TSign: "sign", api.TOpen: "open", api.TClose: "close", api.TSet: "set"}
}

// sayLit is a literal: an atom's cell, or a list's in brackets; a sign has a c ahead of its number.
func sayLit(a api.Arr) string {
	var cells []string
	for _, c := range a.Cells {
		switch {
		case c.Kind == api.CInt && len(c.Box) == 0:
			cells = append(cells, fmt.Sprint(c.N))
		case c.Kind == api.CChar && len(c.Box) == 0:
			cells = append(cells, fmt.Sprintf("c%d", c.N))
		default:
			cells = append(cells, fmt.Sprintf("!%v", c))
		}
	}
	switch {
	case len(a.Shape) == 0 && len(cells) == 1:
		return cells[0]
	case len(a.Shape) == 1 && a.Shape[0] == len(cells):
		return "[" + strings.Join(cells, " ") + "]"
	}
	return fmt.Sprintf("!shape %v of %v", a.Shape, cells)
}

// sayWord is a word: its kind, what it says, the byte at which it begins; fields that should be zero are told with a !.
func sayWord(w api.Token) string {
	kind, known := kinds()[w.Kind]
	if !known {
		kind = fmt.Sprintf("!kind%d", w.Kind)
	}
	literal := w.Kind == api.TNum || w.Kind == api.TText
	out := kind + " "
	if literal {
		out += sayLit(w.Lit)
	} else {
		out += w.Text
	}
	if literal && w.Text != "" {
		out += " !text " + w.Text
	}
	if !literal && len(w.Lit.Shape)+len(w.Lit.Cells) > 0 {
		out += " !lit " + sayLit(w.Lit)
	}
	return fmt.Sprintf("%s %d", out, w.At)
}

// sayAll is what Lex answers: its words, or its fault.
func sayAll(l []api.Token, f api.Fault) string {
	var out []string
	for _, w := range l {
		out = append(out, sayWord(w))
	}
	said := strings.Join(out, "; ")
	if f == (api.Fault{}) {
		return said
	}
	if len(l) > 0 {
		said = "!words " + said + " beside "
	}
	name, known := map[api.Errno]string{api.ErrLong: "long", api.ErrUtf8: "utf8", api.ErrSyntax: "syntax"}[f.Err]
	if !known {
		name = fmt.Sprintf("!err%d", f.Err)
	}
	if f.Why != 0 {
		name += fmt.Sprintf(" !why%d", f.Why)
	}
	return fmt.Sprintf("%s%s at %d", said, name, f.At)
}

// lex is what Lex says of a text.
func lex(s string) string { return sayAll(klex.Lex(s)) }

// short is a text that can be told.
func short(s string) string {
	if len(s) > 60 {
		return fmt.Sprintf("%q .. of %d bytes", s[:60], len(s))
	}
	return fmt.Sprintf("%q", s)
}

// texts are texts, each with what Lex says of it.
type texts [][2]string

// check holds Lex against them.
func (l texts) check(t *testing.T) {
	t.Helper()
	for _, c := range l {
		if got := lex(c[0]); got != c[1] {
			t.Errorf("%s: %s; want %s", short(c[0]), short(got), short(c[1]))
		}
	}
}

// TestExamples: the chapter's own, and the document's of this layer.
func TestExamples(t *testing.T) {
	l, f := klex.Lex("a: +/ 1 -2")
	if f != (api.Fault{}) || len(l) != 5 || l[0].Kind != api.TName || l[0].Text != "a" || l[1].Kind != api.TSet || l[2].Text != "+" || l[3].Text != "/" || l[4].Kind != api.TNum || !arr.Same(l[4].Lit, arr.Nums([]int64{1, -2})) {
		t.Errorf("%v, %v", l, f)
	}
	texts{
		{"a: +/ 1 -2", "name a 0; set : 1; sign + 3; sign / 4; num [1 -2] 6"},
		{"a: +/ 1 -2 / and no more", "name a 0; set : 1; sign + 3; sign / 4; num [1 -2] 6"},
		{"a-1", "name a 0; sign - 1; num 1 2"},
		{`1 "a`, "syntax at 2"},
		{`"a`, "syntax at 0"},
		{"(1", "open ( 0; num 1 1"},
		{"+/1+!4", "sign + 0; sign / 1; num 1 2; sign + 3; sign ! 4; num 4 5"},
		{"+/ 1 + ! 3", "sign + 0; sign / 1; num 1 3; sign + 5; sign ! 7; num 3 9"},
		{"-/1 2 3", "sign - 0; sign / 1; num [1 2 3] 2"},
		{"3 { x * 2 }/ 1", "num 3 0; open { 2; name x 4; sign * 6; num 2 8; close } 10; sign / 11; num 1 13"},
		{"3{x+1}/5", "num 3 0; open { 1; name x 2; sign + 3; num 1 4; close } 5; sign / 6; num 5 7"},
		{"a:1+!3", "name a 0; set : 1; num 1 2; sign + 3; sign ! 4; num 3 5"},
		{"a : 1 + ! 3", "name a 0; set : 2; num 1 4; sign + 6; sign ! 8; num 3 10"},
		{"1+", "num 1 0; sign + 1"},
		{"9223372036854775807+1", "num 9223372036854775807 0; sign + 19; num 1 20"},
		{"a*2", "name a 0; sign * 1; num 2 2"},
		{"a[1 -2]", "name a 0; open [ 1; num [1 -2] 2; close ] 6"},
	}.check(t)
}

// TestNothing: 14.1, no words, and blanks that say nothing.
func TestNothing(t *testing.T) {
	for _, n := range []int{0, 1, 2, 100, api.MaxText} {
		s := strings.Repeat(" ", n)
		l, f := klex.Lex(s)
		if len(l) != 0 || f != (api.Fault{}) {
			t.Errorf("%d blanks: %v, %v", n, l, f)
		}
	}
	texts{
		{"a", "name a 0"},
		{"  a", "name a 2"},
		{"a  ", "name a 0"},
		{"  a  b   c ", "name a 2; name b 5; name c 9"},
		{" ( a ) ", "open ( 1; name a 3; close ) 5"},
		{"! !  !", "sign ! 0; sign ! 2; sign ! 5"},
		{"a : 1", "name a 0; set : 2; num 1 4"},
		// Other signs that look like nothing are no blanks.
		{"\t", "syntax at 0"},
		{"a\tb", "syntax at 1"},
		{"a\n", "syntax at 1"},
		{"a\r\n", "syntax at 1"},
		{"a\u00a0b", "syntax at 1"},
		{"a \u3000", "syntax at 2"},
		{"\ufeffa", "syntax at 0"},
		{"1\t2", "syntax at 1"},
		{"1\u00a02", "syntax at 1"},
	}.check(t)
}

// fronts are texts behind which a word could begin, each with its words; none of them ends in a blank.
func fronts() texts {
	return texts{
		{"1", "num 1 0"},
		{"1 2", "num [1 2] 0"},
		{"  -12", "num -12 2"},
		{`"a"`, "text c97 0"},
		{`""`, "text [] 0"},
		{`" /"`, "text [c32 c47] 0"},
		{`"/ a"`, "text [c47 c32 c97] 0"},
		{`"\" /\\"`, "text [c34 c32 c47 c92] 0"},
		{"ab", "name ab 0"},
		{"abcdefgh", "name abcdefgh 0"},
		{"x", "name x 0"},
		{" y", "name y 1"},
		{"+", "sign + 0"},
		{"-", "sign - 0"},
		{"\\", "sign \\ 0"},
		{"+/", "sign + 0; sign / 1"},
		{"+//", "sign + 0; sign / 1; sign / 2"},
		{"_", "sign _ 0"},
		{"(", "open ( 0"},
		{"{", "open { 0"},
		{"[", "open [ 0"},
		{")", "close ) 0"},
		{"}", "close } 0"},
		{"]", "close ] 0"},
		{"a:", "name a 0; set : 1"},
	}
}

// behinds are texts that could stand behind a remark's beginning.
func behinds() []string {
	return []string{"", " ", "a", " a+1", "/", " /", "\"", "\"a", "\"\"", "\\", "\xff", " \xe2\x8d", "$", "\x00\x7f\n", "z", "abcdefghijkl", "99999999999999999999", strings.Repeat("+", api.MaxTokens+1)}
}

// TestRemark: 14.1, where a remark begins, and that nothing behind its beginning is looked at.
func TestRemark(t *testing.T) {
	for _, behind := range behinds() {
		texts{
			{"/" + behind, ""},
			{" /" + behind, ""},
			{"    /" + behind, ""},
		}.check(t)
		for _, front := range fronts() {
			texts{
				{front[0] + " /" + behind, front[1]},
				{front[0] + "   /" + behind, front[1]},
			}.check(t)
		}
	}
	texts{
		{"//", ""},
		{"/ /", ""},
		{"/+", ""},
		{"+ / 1", "sign + 0"},
		{"+ /1", "sign + 0"},
		{"1 /2", "num 1 0"},
		{"1 2 / 3", "num [1 2] 0"},
		{"a : /1", "name a 0; set : 2"},
		{"\"a\" /\"", "text c97 0"},
		{"$ /", "syntax at 0"},
		{"\xff /", "utf8 at 0"},
		{"\xe2\x8d /", "utf8 at 0"},
		{"z /", "syntax at 0"},
		{"abcdefghi /", "syntax at 0"},
		{"9223372036854775808 /", "syntax at 0"},
	}.check(t)
}

// TestNoRemark: 14.1, right behind a word, and within a text, / is no remark's beginning.
func TestNoRemark(t *testing.T) {
	for _, front := range fronts() {
		at := len(front[0])
		texts{
			{front[0] + "/", fmt.Sprintf("%s; sign / %d", front[1], at)},
			{front[0] + "/ ", fmt.Sprintf("%s; sign / %d", front[1], at)},
			{front[0] + "/1", fmt.Sprintf("%s; sign / %d; num 1 %d", front[1], at, at+1)},
			{front[0] + "/ a", fmt.Sprintf("%s; sign / %d; name a %d", front[1], at, at+2)},
			{front[0] + "//", fmt.Sprintf("%s; sign / %d; sign / %d", front[1], at, at+1)},
			{front[0] + "/ /a", fmt.Sprintf("%s; sign / %d", front[1], at)},
			{front[0] + "/$", fmt.Sprintf("syntax at %d", at+1)},
			{front[0] + "/\xff", fmt.Sprintf("utf8 at %d", at+1)},
			{front[0] + "/\"", fmt.Sprintf("syntax at %d", at+1)},
		}.check(t)
	}
	texts{
		{`"/"`, "text c47 0"},
		{`" / "`, "text [c32 c47 c32] 0"},
		{`a " /b"`, "name a 0; text [c32 c47 c98] 2"},
		{`" /`, "syntax at 0"},
		{`a " / b`, "syntax at 2"},
		{`" / \" "/1`, "text [c32 c47 c32 c34 c32] 0; sign / 8; num 1 9"},
		// What begins a remark in another dialect, and what only looks like a blank ahead.
		{"⍝", "syntax at 0"},
		{"a ⍝ b", "syntax at 2"},
		{"NB.", "syntax at 0"},
		{"a\t/", "syntax at 1"},
		{"a\u00a0/", "syntax at 1"},
		{"\\ a", "sign \\ 0; name a 2"},
	}.check(t)
}

// TestBytes: 14.1, bytes that are no sign's, wherever they stand.
func TestBytes(t *testing.T) {
	wrong := []string{"\x80", "\xbf", "\xff", "\xfe", "\xc0\x80", "\xc1\xbf", "\xc2", "\xe2", "\xe2\x8d", "\xe0\x80\x80", "\xed\xa0\x80", "\xed\xbf\xbf", "\xf0\x90\x80", "\xf4\x90\x80\x80", "\xf5\x80\x80\x80", "\xf8\x88\x80\x80\x80"}
	for _, w := range wrong {
		for _, front := range fronts() {
			texts{
				{front[0] + w, fmt.Sprintf("utf8 at %d", len(front[0]))},
				{front[0] + w + "a \"", fmt.Sprintf("utf8 at %d", len(front[0]))},
				{front[0] + "  " + w, fmt.Sprintf("utf8 at %d", len(front[0])+2)},
				{front[0] + " /" + w, front[1]},
			}.check(t)
		}
		texts{
			{w, "utf8 at 0"},
			{"  " + w, "utf8 at 2"},
			{w + " ", "utf8 at 0"},
			{w + "a", "utf8 at 0"},
			{w + "$", "utf8 at 0"},
			{w + "\"a", "utf8 at 0"},
			{w + "/", "utf8 at 0"},
			{w + " /", "utf8 at 0"},
			{w + "-1", "utf8 at 0"},
			{"-" + w, "utf8 at 1"},
			{"1 -" + w, "utf8 at 3"},
			{"1 2 " + w, "utf8 at 4"},
			{"(" + w + ")", "utf8 at 1"},
			{`"a"` + w + `"`, "utf8 at 3"},
			// In a text.
			{`"` + w + `"`, "utf8 at 1"},
			{`"ab` + w + `c"`, "utf8 at 3"},
			{`a "⍳` + w + `"`, "utf8 at 6"},
			{`"\"` + w + `"`, "utf8 at 3"},
			{`"\\` + w + `"`, "utf8 at 3"},
			{`"` + w + `\""`, "utf8 at 1"},
			{`"` + w + `\a"`, "utf8 at 1"},
			{`"\` + w + `"`, "syntax at 1"},
			{`"` + w, "syntax at 0"},
			// Behind what is wrong itself.
			{"$" + w, "syntax at 0"},
			{"z" + w, "syntax at 0"},
			{"xy" + w, "syntax at 0"},
			{"abcdefghi" + w, "syntax at 0"},
			{"9223372036854775808" + w, "syntax at 0"},
			// Behind a remark's beginning.
			{"/" + w, ""},
			{"a / " + w + `"`, "name a 0"},
			{"a/" + w, "utf8 at 2"},
		}.check(t)
	}
	// What is wrong is told where it begins, not behind what would have been right of it.
	texts{
		{"\xe2\x8da", "utf8 at 0"},
		{"a\xe2\x8d \xb3", "utf8 at 1"},
		{"\"\xe2\x8d\"\xb3", "utf8 at 1"},
		{"\"\xe2\x8d\xb3\xb3\"", "utf8 at 4"},
		{"\xe2\x8d\xb3\xb3", "syntax at 0"},
		{"\xb3\xe2\x8d\xb3", "utf8 at 0"},
	}.check(t)
}

// TestPlain: 14.4, each sign of Unicode alone is a word, a blank, a remark, a text that does not end, or none.
func TestPlain(t *testing.T) {
	words := map[rune]string{' ': "", '/': "", 'x': "name x 0", 'y': "name y 0"}
	for c := 'a'; c <= 'w'; c++ {
		words[c] = fmt.Sprintf("name %c 0", c)
	}
	for c := '0'; c <= '9'; c++ {
		words[c] = fmt.Sprintf("num %c 0", c)
	}
	for _, w := range sames() {
		if w.text != "/" {
			words[rune(w.text[0])] = w.kind + " " + w.text + " 0"
		}
	}
	for c := rune(0); c <= 0x10ffff; c++ {
		if c >= 0xd800 && c <= 0xdfff {
			continue
		}
		want, is := words[c]
		if !is {
			want = "syntax at 0"
		}
		if got := lex(string(c)); got != want {
			t.Errorf("%x: %s; want %s", c, got, want)
		}
	}
}

// TestWrong: 14.4, signs that are no word's, and where that is told.
func TestWrong(t *testing.T) {
	for _, w := range []string{"$", "'", ".", ";", "`", "A", "N", "Z", "ä", "¯", "×", "÷", "⍳", "←", "⍵", "≢", "\x00", "\x1f", "\x7f", "\u0080", "😀"} {
		texts{
			{w, "syntax at 0"},
			{" " + w, "syntax at 1"},
			{w + "a", "syntax at 0"},
			{w + w, "syntax at 0"},
			{w + "-1", "syntax at 0"},
			{w + " /", "syntax at 0"},
			{"a " + w, "syntax at 2"},
			{"1" + w, "syntax at 1"},
			{"1 " + w, "syntax at 2"},
			{"-" + w, "syntax at 1"},
			{"!  " + w, "syntax at 3"},
			{`"⍳"` + w, "syntax at 5"},
			{"(" + w + ")", "syntax at 1"},
			{"a:" + w, "syntax at 2"},
			{"a/" + w, "syntax at 2"},
			{"a+" + w + "\xff", "syntax at 2"},
			{w + ` "a`, "syntax at 0"},
			{"/" + w, ""},
			{"a /" + w, "name a 0"},
		}.check(t)
	}
}

// TestFirst: 14.1, of two faults the first one is told.
func TestFirst(t *testing.T) {
	texts{
		{`$ "a`, "syntax at 0"},
		{"\"a\" $ \xff", "syntax at 4"},
		{"\"a\" \xff $", "utf8 at 4"},
		{"abcdefghi $", "syntax at 0"},
		{"a $ abcdefghi", "syntax at 2"},
		{"ax z", "syntax at 0"},
		{"a z ax", "syntax at 2"},
		{"z \xff", "syntax at 0"},
		{"\xff z", "utf8 at 0"},
		{"1 9223372036854775808 $", "syntax at 2"},
		{"1 9223372036854775808 9223372036854775808", "syntax at 2"},
		{"\"\x01\" $", "syntax at 1"},
		{"\"\xff\x01\"", "utf8 at 1"},
		{"\"\x01\xff\"", "syntax at 1"},
		{"\"a\x7f\x01\"", "syntax at 2"},
		{"\"a\\n\x01\"", "syntax at 2"},
		{"\"a\x01\\n\"", "syntax at 2"},
		{"\"a\\\xff\"", "syntax at 2"},
		{"\"a\xff\\n\"", "utf8 at 2"},
		{"\"\\n\\t\"", "syntax at 1"},
		{"\"\x01", "syntax at 0"},
		{"\"\xff", "syntax at 0"},
		{"\"\\n", "syntax at 0"},
		{"a\xff\"", "utf8 at 1"},
		{"a\"\xff", "syntax at 1"},
	}.check(t)
}
