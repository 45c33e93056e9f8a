package klex_test

import (
	"fmt"
	"slices"
	"strings"
	"testing"
	"unsafe"

	"triglyph/api"
	"triglyph/arr"
	"triglyph/klex"
)

// filled is a text of so many bytes: a front, one byte as often as need be, and an end.
func filled(front, with, end string, size int) string {
	return front + strings.Repeat(with, size-len(front)-len(end)) + end
}

// TestMaxText: 14.1, texts of MaxText bytes are read, and of one more, whatever they say, none is.
func TestMaxText(t *testing.T) {
	full := texts{
		{filled("", " ", "", api.MaxText), ""},
		{filled("a", " ", "", api.MaxText), "name a 0"},
		{filled("", " ", "b", api.MaxText), fmt.Sprintf("name b %d", api.MaxText-1)},
		{filled("a", " ", "!", api.MaxText), fmt.Sprintf("name a 0; sign ! %d", api.MaxText-1)},
		{filled("a", " ", "-", api.MaxText), fmt.Sprintf("name a 0; sign - %d", api.MaxText-1)},
		{filled("a", " ", "-1", api.MaxText), fmt.Sprintf("name a 0; num -1 %d", api.MaxText-2)},
		{filled("a", " ", ":", api.MaxText), fmt.Sprintf("name a 0; set : %d", api.MaxText-1)},
		{filled("", " ", "/", api.MaxText), ""},
		{filled("a", " ", "/", api.MaxText), "name a 0"},
		{filled("", "0", "7", api.MaxText), "num 7 0"},
		{filled("-", "0", "7", api.MaxText), "num -7 0"},
		{filled("", "9", "", api.MaxText), "syntax at 0"},
		{filled(`"`, "a", `"`, api.MaxText), "text [" + strings.TrimSuffix(strings.Repeat("c97 ", api.MaxText-2), " ") + "] 0"},
		{filled(`"`, `\`, `"`, api.MaxText), "text [" + strings.TrimSuffix(strings.Repeat("c92 ", api.MaxText/2-1), " ") + "] 0"},
		{filled(`"a`, `\`, `"`, api.MaxText), "syntax at 0"},
		{filled(`"`, "a", "", api.MaxText), "syntax at 0"},
		{filled(`"`, "a", `\`, api.MaxText), "syntax at 0"},
		{filled(`"`, "a", `\"`, api.MaxText), "syntax at 0"},
		{filled("", "a", "", api.MaxText), "syntax at 0"},
		{filled("/", "\xff", "", api.MaxText), ""},
		{filled("a /", "+", "", api.MaxText), "name a 0"},
		{strings.Repeat("1 ", api.MaxText/2), "num [" + strings.TrimSuffix(strings.Repeat("1 ", api.MaxText/2), " ") + "] 0"},
		{filled("", " ", "\xff", api.MaxText), fmt.Sprintf("utf8 at %d", api.MaxText-1)},
		{filled("", " ", "$", api.MaxText), fmt.Sprintf("syntax at %d", api.MaxText-1)},
		{filled("", " ", `"`, api.MaxText), fmt.Sprintf("syntax at %d", api.MaxText-1)},
	}
	full.check(t)
	for _, c := range full {
		texts{
			{" " + c[0], "long at 0"},
			{c[0] + " ", "long at 0"},
			{c[0] + "\xff", "long at 0"},
			{"\xff" + c[0], "long at 0"},
			{"$" + c[0], "long at 0"},
			{"/" + c[0], "long at 0"},
			{c[0] + c[0], "long at 0"},
		}.check(t)
	}
	texts{{strings.Repeat("a", 1<<24), "long at 0"}}.check(t)
}

// wordsOf is how many words a text has, and its fault.
func wordsOf(s string) (int, api.Fault) {
	l, f := klex.Lex(s)
	return len(l), f
}

// TestMaxTokens: 14.1, MaxTokens words of each kind, and one more, told where that one begins.
func TestMaxTokens(t *testing.T) {
	for _, w := range []string{"+", "-", "(", "{", "[", ")", "}", "]", ":", "!", "\\", " \\", "a ", "y ", "1a ", "1+", `"a"+`, `""+`, ` ""`, `"\""+`, "-1+", "+-1", "1 2+", " w", " x", "+/", "_ "} {
		l, f := klex.Lex(w)
		s := strings.Repeat(w, api.MaxTokens/max(len(l), 1))
		if f != (api.Fault{}) || len(s) > api.MaxText || len(l) == 0 {
			t.Fatalf("%q: the test's own word: %v", w, f)
		}
		if n, f := wordsOf(s); n != api.MaxTokens || f != (api.Fault{}) {
			t.Errorf("%q: %d words, %v", w, n, f)
		}
		if n, f := wordsOf(s[:len(s)-len(w)]); n != api.MaxTokens-len(l) || f != (api.Fault{}) {
			t.Errorf("%q: %d words, %v", w, n, f)
		}
		at := len(s) + l[0].At
		if n, f := wordsOf(s + w); n != 0 || f != (api.Fault{Err: api.ErrLong, At: at}) {
			t.Errorf("%q, one more: %d words, %v; want it at %d", w, n, f, at)
		}
		if n, f := wordsOf(s + "   " + w + w); n != 0 || f != (api.Fault{Err: api.ErrLong, At: at + 3}) {
			t.Errorf("%q, two more: %d words, %v; want it at %d", w, n, f, at+3)
		}
	}
}

// TestMaxTokensNumbers: 14.1 and 14.2, numbers that stand together are one word; - between them, without blanks, is another.
func TestMaxTokensNumbers(t *testing.T) {
	full := strings.Repeat("+", api.MaxTokens)
	beside := strings.Repeat("1-", api.MaxTokens/2)
	almost := beside[2:] + "+"
	for _, c := range []struct {
		text  string
		words int
	}{
		{full[1:] + "1 2 -3 4", api.MaxTokens},
		{strings.Repeat("1 ", api.MaxTokens+1), 1},
		{strings.Repeat("-1 ", api.MaxTokens+1), 1},
		{beside, api.MaxTokens},
		{almost + "2  -3", api.MaxTokens},
		{almost + "-3 4", api.MaxTokens},
	} {
		if n, f := wordsOf(c.text); n != c.words || f != (api.Fault{}) {
			t.Errorf("%s: %d words, %v; want %d", short(c.text), n, f, c.words)
		}
	}
	texts{
		{beside + "1", fmt.Sprintf("long at %d", len(beside))},
		{beside + "-1", fmt.Sprintf("long at %d", len(beside))},
		{almost + "2-3", fmt.Sprintf("long at %d", len(almost)+1)},
		{almost + "--3", fmt.Sprintf("long at %d", len(almost)+1)},
	}.check(t)
}

// TestBehindMaxTokens: 14.1, what may stand behind MaxTokens words, what not, and which of two faults is told.
func TestBehindMaxTokens(t *testing.T) {
	full := strings.Repeat("+", api.MaxTokens)
	for _, behind := range []string{"", " ", strings.Repeat(" ", 1000), " /", "  / and more", " /\"\xff", " /" + full} {
		if n, f := wordsOf(full + behind); n != api.MaxTokens || f != (api.Fault{}) {
			t.Errorf("%s: %d words, %v", short(behind), n, f)
		}
	}
	for _, c := range []struct {
		behind string
		err    api.Errno
		at     int
	}{
		{"a", api.ErrLong, 0}, {"1", api.ErrLong, 0}, {"-", api.ErrLong, 0}, {"  -1", api.ErrLong, 2}, {" 1 2 3", api.ErrLong, 1}, {`""`, api.ErrLong, 0}, {" !", api.ErrLong, 1}, {":", api.ErrLong, 0}, {")", api.ErrLong, 0}, {"]", api.ErrLong, 0}, {"\\", api.ErrLong, 0}, {" x", api.ErrLong, 1}, {"a /", api.ErrLong, 0},
		// Right behind a word it is no remark.
		{"/", api.ErrLong, 0}, {"/ a", api.ErrLong, 0}, {"//", api.ErrLong, 0},
		// A word begins there, whatever is wrong with it; ErrLong is named first.
		{`"`, api.ErrLong, 0}, {` "a`, api.ErrLong, 1}, {"\"\x01\"", api.ErrLong, 0}, {"\"\xff\"", api.ErrLong, 0}, {`"\n"`, api.ErrLong, 0}, {`"\`, api.ErrLong, 0}, {"abcdefghi", api.ErrLong, 0}, {"9223372036854775808", api.ErrLong, 0}, {" 1 9223372036854775808", api.ErrLong, 1},
		{"a$", api.ErrLong, 0}, {"a\xff", api.ErrLong, 0}, {" z", api.ErrLong, 1}, {"xy", api.ErrLong, 0}, {"x1", api.ErrLong, 0},
		// No word begins there.
		{"$", api.ErrSyntax, 0}, {" .", api.ErrSyntax, 1}, {"'", api.ErrSyntax, 0}, {"  `a", api.ErrSyntax, 2}, {";", api.ErrSyntax, 0}, {"A", api.ErrSyntax, 0}, {"⍳", api.ErrSyntax, 0}, {"\t", api.ErrSyntax, 0}, {"$+", api.ErrSyntax, 0}, {"$ /", api.ErrSyntax, 0},
		{"\xff", api.ErrUtf8, 0}, {" \xe2\x8d", api.ErrUtf8, 1}, {"\xff+", api.ErrUtf8, 0},
	} {
		if n, f := wordsOf(full + c.behind); n != 0 || f != (api.Fault{Err: c.err, At: len(full) + c.at}) {
			t.Errorf("%q: %d words, %v", c.behind, n, f)
		}
	}
	// What is wrong ahead of the word too many is told.
	texts{
		{"$" + full + "+", "syntax at 0"},
		{"z" + full + "+", "syntax at 0"},
		{"+\"\x01\"" + full, "syntax at 2"},
		{"+\"\\n\"" + full, "syntax at 2"},
		{full[1:] + "\"\xff\"+", fmt.Sprintf("utf8 at %d", api.MaxTokens)},
		{full[1:] + `"a++`, fmt.Sprintf("syntax at %d", api.MaxTokens-1)},
		{full[1:] + "xy+", fmt.Sprintf("syntax at %d", api.MaxTokens-1)},
		{full[1:] + `"⍳"!`, fmt.Sprintf("long at %d", api.MaxTokens+4)},
		{full[1:] + `"\""!`, fmt.Sprintf("long at %d", api.MaxTokens+3)},
		{full[1:] + "ab !", fmt.Sprintf("long at %d", api.MaxTokens+2)},
	}.check(t)
}

// TestNew: R3, what is answered shares nothing with the text, nor with another answer, nor a word with another.
func TestNew(t *testing.T) {
	s := strings.Clone("a: !1 -2 \"it\\\"s\" \"\" \"x\" 7 { y } abcdefgh <- + (x) a[1]-5 / no more")
	first, _ := klex.Lex(s)
	want := sayAll(first, api.Fault{})
	begin := uintptr(unsafe.Pointer(unsafe.StringData(s)))
	for _, w := range first {
		if w.Text == "" {
			continue
		}
		if p := uintptr(unsafe.Pointer(unsafe.StringData(w.Text))); p >= begin && p < begin+uintptr(len(s)) {
			t.Errorf("%q shares the text's memory", w.Text)
		}
	}
	second, _ := klex.Lex(s)
	for i := range first {
		kept := make([]api.Arr, len(first))
		for j := range first {
			kept[j] = arr.Copy(first[j].Lit)
		}
		for j := range first[i].Lit.Shape {
			first[i].Lit.Shape[j] = 99
		}
		for j := range first[i].Lit.Cells {
			first[i].Lit.Cells[j].N = 99
		}
		for j := range first {
			if j != i && !arr.Same(first[j].Lit, kept[j]) {
				t.Errorf("words %d and %d share memory", i, j)
			}
		}
		first[i] = api.Token{}
	}
	if got := sayAll(second, api.Fault{}); got != want {
		t.Errorf("two answers share memory: %s; want %s", got, want)
	}
	if got := lex(s); got != want {
		t.Errorf("a later call: %s; want %s", got, want)
	}
	for i, w := range second {
		if w.Kind == api.TNum || w.Kind == api.TText {
			l := slices.Clone(w.Lit.Cells)
			_ = append(w.Lit.Cells, api.Cell{N: 5})
			if sayAll(second, api.Fault{}) != want || !arr.Same(api.Arr{Shape: w.Lit.Shape, Cells: l}, second[i].Lit) {
				t.Errorf("word %d: what lies behind its cells is another's", i)
			}
		}
	}
}
