package grammar_test

import (
	"strings"
	"testing"

	"triglyph/api"
	"triglyph/core"
	"triglyph/grammar"
)

// none is which word lies too deep, where none does.
const none = -1

// expectDeep: which word of a text (counted from 0 on) is told as lying too deep.
func expectDeep(t *testing.T, d dialect, text string, word int) {
	t.Helper()
	l, f := d.lex(text)
	if f != (api.Fault{}) {
		t.Fatalf("%s: the test's own text: %v", short(text), f)
	}
	want := api.Fault{}
	if word != none {
		want = api.Fault{Err: api.ErrDeep, At: len(text)}
		if word < len(l) {
			want.At = l[word].At
		}
	}
	n, f := grammar.Parse(d.g, l, len(text))
	if f != want || (word == none) == isZero(n) {
		t.Errorf("%s: %v; want %v (word %d)", short(text), f, want, word)
	}
}

// nest is what lies in as many pieces as are asked for: how often they may stand, and which word is told if they stand once more.
type nest struct {
	open, within, close string
	most, word          int
}

func (n nest) text(many int) string {
	return strings.Repeat(n.open, many) + n.within + strings.Repeat(n.close, many)
}

func (n nest) check(t *testing.T, d dialect, ahead, behind string, words int) {
	t.Helper()
	for many := range n.most + 1 {
		expectDeep(t, d, ahead+n.text(many)+behind, none)
	}
	expectDeep(t, d, ahead+n.text(n.most+1)+behind, words+n.word)
}

// TestDeepExpressions: the first expression lies at 1, and each in it one deeper, up to MaxNest; so do functions.
func TestDeepExpressions(t *testing.T) {
	for _, n := range []nest{
		{"(", "1", ")", 23, 24},
		{"(", "a[b]", ")", 22, 25},
		{"(", "-1", ")", 22, 23},
		{"(", "1-2", ")", 22, 24},
		{"(", "{⍵}1", ")", 21, 23},
		{"(", "(-)1", ")", 21, 23},
		{"(", "1", "-1)", 22, 24},
		{"(", "1", ")-1", 23, 24},
		{"(", "1", ")[1]", 23, 24},
		{"a[", "1", "]", 23, 48},
		{"a[1][", "1", "]", 23, 117},
		{"(a)[", "1", "]", 23, 93},
		{"-", "1", "", 23, 23},
		{"1-", "1", "", 23, 47},
		{"-", "(1)", "", 22, 24},
		{"-", "a[1]", "", 22, 25},
		{"-(", "1", ")", 11, 24},
		{"(-", "1", ")", 11, 23},
		{"(1-", "1", ")", 11, 35},
		{"-/", "1", "", 23, 46},
		{"∘.-", "1", "", 23, 46},
		{"-⍣2", "a", "", 23, 69},
		{"a/", "1", "", 23, 47},
	} {
		n.check(t, inAPL(), "", "", 0)
	}
	nest{"3{x}/", "1", "", 22, 112}.check(t, inK(), "", "", 0)
	nest{"3{x}\\", "1", "", 22, 112}.check(t, inK(), "", "", 0)
}

// TestDeepFunctions: a function in brackets lies one deeper than they do, and so does its text than a function.
func TestDeepFunctions(t *testing.T) {
	for _, n := range []nest{
		{"(", "-", ")", 22, 23},
		{"(", "-/⍨", ")", 22, 23},
		{"(", "-", ")/", 22, 23},
		{"(", "∘.-", ")", 22, 23},
		{"∘.(", "-", ")", 22, 46},
		{"(", "{1}", ")", 21, 23},
	} {
		n.check(t, inAPL(), "", "1", 0)
		n.check(t, inAPL(), "1", "2", 1)
		n.check(t, inFull(), "", "1", 0)
	}
	for _, n := range []nest{
		{"(", "-", " +)", 22, 23},
		{"(+ ", "-", ")", 22, 45},
		{"(", "-", " + *)", 22, 23},
		{"(+ ", "-", " *)", 22, 45},
		{"(+ * ", "-", ")", 22, 67},
		{"(+ (", "-", "))", 11, 34},
		{"(", "{{1}}", " +)", 21, 23},
	} {
		n.check(t, inJ(), "", " 1", 0)
		n.check(t, inJ(), "1", " 2", 1)
	}
}

// TestDeepTexts: a function's text is an expression in that function.
func TestDeepTexts(t *testing.T) {
	for _, n := range []nest{
		{"{", "1", "}1", 11, 12},
		{"1{", "1", "}1", 11, 24},
		{"{", "1", "}/1", 11, 12},
		{"∘.{", "1", "}1", 11, 24},
		{"{", "(1)", "}1", 11, 12},
		{"{", "-1", "}1", 11, 12},
		{"{(", "1", ")}1", 7, 16},
		{"({", "1", "})1", 7, 16},
		{"{a[", "1", "]}1", 7, 24},
	} {
		n.check(t, inAPL(), "", "", 0)
		n.check(t, inFull(), "", "", 0)
	}
	nest{"{{ ", "1", " }} 1", 11, 12}.check(t, inJ(), "", "", 0)
	for many := 1; many < 30; many++ {
		word := none
		if many > 11 {
			word = 12
		}
		expectDeep(t, inAPL(), strings.Repeat("{", many)+"⍵"+strings.Repeat("}⍵", many-1)+"}1", word)
		expectDeep(t, inK(), strings.Repeat("{", many)+"x"+strings.Repeat("}x", many-1)+"}1", word)
	}
}

// TestDeepAhead: what would lie too deep is told at its first word, ahead of what else is wrong there and behind; what is wrong ahead of it comes first.
func TestDeepAhead(t *testing.T) {
	full := strings.Repeat("(", 24)
	for _, behind := range []string{"", ")", "]", "1", "-", "⍵", "←", "/", "⍣", "{", "(", "1 a", "1-", "1))))", strings.Repeat("(", 500), nest{"(", "-", ")", 0, 0}.text(99) + "1"} {
		expectDeep(t, inAPL(), full+behind, 24)
	}
	texts{
		{full[1:], "syntax at 23"},
		{full[1:] + ")", "syntax at 23"},
		{full[1:] + "⍵", "syntax at 23"},
		{full[1:] + "{", "syntax at 23"},
		{full[1:] + "-", "deep at 23"},
		{full[1:] + "1", "syntax at 24"},
		{full[1:] + "1]", "syntax at 24"},
		{full[1:] + "1 a", "syntax at 25"},
		{full[1:] + "1 -", "deep at 25"},
		{full[1:] + "a[", "deep at 25"},
		{full[1:] + "a[]", "deep at 25"},
		{full[1:] + "a[1]", "deep at 25"},
		{"1 a" + full, "syntax at 2"},
		{"1-" + full, "deep at 25"},
		{"1-(⍵)-" + full, "syntax at 3"},
		{"(1" + full, "syntax at 2"},
		{"{" + full, "syntax at 0"},
		{"{⍺}" + full, "syntax at 0"},
		{strings.Repeat("-", 24), "deep at 23"},
		{strings.Repeat("-", 24) + ")", "deep at 23"},
		{strings.Repeat("-", 23), "syntax at 23"},
		{nest{"(", "-", ")", 0, 0}.text(22), "syntax at 45"},
		{nest{"(", "-", ")", 0, 0}.text(23), "deep at 23"},
		{nest{"{", "⍺", "}1", 0, 0}.text(11), "syntax at 10"},
		{nest{"{", "⍺", "}1", 0, 0}.text(12), "deep at 12"},
	}.check(t, inAPL())
	texts{
		{strings.Repeat("!", 21) + "-1{x}/1", "syntax at 23"},
		{strings.Repeat("!", 22) + "-1{x}/1", "deep at 25"},
	}.check(t, inK())
}

// TestLongNotDeep: signs behind a function, brackets behind an operand, and functions side by side lie no deeper, however many they are.
func TestLongNotDeep(t *testing.T) {
	for _, text := range []string{
		"-" + strings.Repeat("/", 2000) + "1",
		"1-" + strings.Repeat("⍨", 2000) + "1",
		"-" + strings.Repeat("⍣2", 1000) + "a",
		"a" + strings.Repeat("[1]", 600),
		"a" + strings.Repeat("[(1)-2]", 200) + "-1",
		nest{"(", "1", ")", 0, 0}.text(22) + strings.Repeat("[1]", 600),
		"{⍵" + strings.Repeat("[⍵]", 600) + "}1",
	} {
		expectDeep(t, inAPL(), text, none)
	}
	l, _ := inK().lex("{x" + strings.Repeat("[x]", 600) + "}1")
	n, f := grammar.Parse(kGrammar(), l, 0)
	if f != (api.Fault{}) || core.Size(n) != 1204 {
		t.Errorf("%d nodes, %v", core.Size(n), f)
	}
	for x := n.Kids[0].Kids[0]; x.Kind == api.NIndex; x = x.Kids[0] {
		if x.Kids[1].Kind != api.NRight || x.Kids[0].Kind != api.NIndex && x.Kids[0].Kind != api.NRight {
			t.Fatalf("%v", x)
		}
	}
}
