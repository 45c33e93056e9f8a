package apl_test

import (
	"fmt"
	"strings"
	"testing"

	"triglyph/alex"
	"triglyph/api"
	"triglyph/apl"
)

// TestExamples: the chapter's own.
func TestExamples(t *testing.T) {
	texts{
		{"a←1+⍳3", "1: a = dy@4(+@5 1@4 mo@6(⍳@6 3@9))"},
		{"1+", "syntax at 2"},
		{"⎕IO←0⋄⍳3", "0: mo@12(⍳@12 3@15)"},
	}.check(t)
	p, _ := apl.Parse("a←1+⍳3")
	pairs{{p, "a ← 1 + ⍳ 3"}}.check(t)
}

// TestEmpty: 17.2, texts without words: where they end an expression is missed.
func TestEmpty(t *testing.T) {
	texts{
		{"", "syntax at 0"},
		{" ", "syntax at 1"},
		{"     ", "syntax at 5"},
		{"⍝", "syntax at 3"},
		{"⍝ a←1", "syntax at 9"},
		{"  ⍝⎕IO←0⋄1", "syntax at 18"},
	}.check(t)
}

// TestFaultsOfWords: 17.2, the words' faults come ahead of all others, wherever they are.
func TestFaultsOfWords(t *testing.T) {
	texts{
		{"$", "syntax at 0"},
		{"1 'a", "syntax at 2"},
		{"a←\xff", "utf8 at 4"},
		{"1+\xe2\x8d", "utf8 at 2"},
		{"9223372036854775808", "syntax at 0"},
		{"1 ¯9223372036854775809", "syntax at 2"},
		{"abcdefghi←1", "syntax at 0"},
		{"a←abcdefghi", "syntax at 4"},
		{"x←1", "syntax at 0"},
		{"ax←1", "syntax at 1"},
		{"A←1", "syntax at 0"},
		{"'a\x01b'", "syntax at 2"},
		{"'a\xffb'", "utf8 at 2"},
		{"1¯", "syntax at 1"},
		{"⎕←1", "syntax at 0"},
		{"⎕I←1", "syntax at 0"},
		{"⎕io←0⋄1", "syntax at 0"},
		{"∘×1", "syntax at 0"},
		// A fault behind a beginning that is one, too.
		{"1+ $", "syntax at 3"},
		{"++\xff", "utf8 at 2"},
		{")$", "syntax at 1"},
		{"⎕IO $", "syntax at 6"},
		{"⎕IO 1 \xff", "utf8 at 8"},
		{"⎕IO←2⋄\xff", "utf8 at 12"},
		{"⎕IO←0⋄$", "syntax at 12"},
		{"⎕IO←0⋄a←'b", "syntax at 16"},
		{"⎕IO←9223372036854775808⋄1", "syntax at 8"},
		{"⎕IO←'\x01'⋄1", "syntax at 9"},
		{"⎕IO←0 9223372036854775808⋄1", "syntax at 10"},
		{"←←\xff", "utf8 at 6"},
		{"a←b←$", "syntax at 8"},
		{strings.Repeat("-", 99) + "\xff", "utf8 at 99"},
		// Behind a remark there are no words.
		{"1⍝\xff", "1: 1"},
		{"⎕IO←0⋄1⍝'", "0: 1"},
	}.check(t)
}

// TestOrigin: 17.2, ⎕IO as the first word with all that must follow.
func TestOrigin(t *testing.T) {
	texts{
		{"⍳3", "1: mo@0(⍳@0 3@3)"},
		{"⎕IO←0⋄⍳3", "0: mo@12(⍳@12 3@15)"},
		{"⎕IO←1⋄⍳3", "1: mo@12(⍳@12 3@15)"},
		{"⎕IO ← 0 ⋄ ⍳ 3", "0: mo@16(⍳@16 3@20)"},
		{" ⎕IO  ←   1    ⋄     ⍳ 3 ", "1: mo@27(⍳@27 3@31)"},
		{"⎕IO←00⋄5", "0: 5@13"},
		{"⎕IO←01⋄5", "1: 5@13"},
		{"⎕IO←0000000001⋄5", "1: 5@21"},
		{"⎕IO←¯0⋄5", "0: 5@14"},
		{"⎕IO←0⋄5⍝⎕IO←1⋄6", "0: 5@12"},
		{"⎕IO←0⋄a←5", "0: a = 5@16"},
		{"⎕IO←1⋄a←5", "1: a = 5@16"},
		{"⎕IO←0⋄(a)", "0: a@13"},
		{"⎕IO←0⋄{⍵}1", "0: mo@12(lam1@12(R@13) 1@17)"},
	}.check(t)
}

// TestOriginMissed: 17.2, each of the words that must follow missing, another one there, or the text's end.
func TestOriginMissed(t *testing.T) {
	texts{
		// One of them is missing.
		{"⎕IO0⋄1", "syntax at 5"},
		{"⎕IO 0⋄1", "syntax at 6"},
		{"⎕IO←⋄1", "syntax at 8"},
		{"⎕IO← ⋄1", "syntax at 9"},
		{"⎕IO←0⍳3", "syntax at 9"},
		{"⎕IO←1 ⍳3", "syntax at 10"},
		{"⎕IO⋄1", "syntax at 5"},
		{"⎕IO 1", "syntax at 6"},
		{"⎕IO←a", "syntax at 8"},
		// Another one stands in its place.
		{"⎕IO+0⋄1", "syntax at 5"},
		{"⎕IO=0⋄1", "syntax at 5"},
		{"⎕IO⎕IO←0⋄1", "syntax at 5"},
		{"⎕IO a←0⋄1", "syntax at 6"},
		{"⎕IO(←0⋄1", "syntax at 5"},
		{"⎕IO[1]←0⋄1", "syntax at 5"},
		{"⎕IO'←'0⋄1", "syntax at 5"},
		{"⎕IO←a⋄1", "syntax at 8"},
		{"⎕IO←⍵⋄1", "syntax at 8"},
		{"⎕IO←⎕IO⋄1", "syntax at 8"},
		{"⎕IO←←0⋄1", "syntax at 8"},
		{"⎕IO←(0)⋄1", "syntax at 8"},
		{"⎕IO←+0⋄1", "syntax at 8"},
		{"⎕IO←⋄⋄1", "syntax at 8"},
		{"⎕IO←0+⋄1", "syntax at 9"},
		{"⎕IO←0,1", "syntax at 9"},
		{"⎕IO←0)1", "syntax at 9"},
		{"⎕IO←0←1", "syntax at 9"},
		{"⎕IO←0 a←1", "syntax at 10"},
		{"⎕IO←0∘.1", "syntax at 9"},
		{"⎕IO←0'⋄'1", "syntax at 9"},
		{"⎕IO←0⎕IO←1⋄1", "syntax at 9"},
		// A list, a text, another number in the number's place.
		{"⎕IO←0 1⋄1", "syntax at 8"},
		{"⎕IO←0 0⋄1", "syntax at 8"},
		{"⎕IO← 1 0⋄1", "syntax at 9"},
		{"⎕IO←1 2 3⋄1", "syntax at 8"},
		{"⎕IO←'a'⋄1", "syntax at 8"},
		{"⎕IO←'0'⋄1", "syntax at 8"},
		{"⎕IO←'1'⋄1", "syntax at 8"},
		{"⎕IO←'01'⋄1", "syntax at 8"},
		{"⎕IO←''⋄1", "syntax at 8"},
		{"⎕IO←2⋄1", "syntax at 8"},
		{"⎕IO←¯1⋄1", "syntax at 8"},
		{"⎕IO←10⋄1", "syntax at 8"},
		{"⎕IO←256⋄1", "syntax at 8"},
		{"⎕IO←4294967296⋄1", "syntax at 8"},
		{"⎕IO←4294967297⋄1", "syntax at 8"},
		{"⎕IO←9223372036854775807⋄1", "syntax at 8"},
		{"⎕IO←¯9223372036854775808⋄1", "syntax at 8"},
		// The text ends.
		{"⎕IO", "syntax at 5"},
		{"⎕IO   ", "syntax at 8"},
		{" ⎕IO ⍝←0⋄1", "syntax at 18"},
		{"⎕IO←", "syntax at 8"},
		{"⎕IO← ", "syntax at 9"},
		{"⎕IO←⍝0⋄1", "syntax at 16"},
		{"⎕IO←0", "syntax at 9"},
		{"⎕IO←1  ", "syntax at 11"},
		{"⎕IO←1⍝⋄1", "syntax at 16"},
		{"⎕IO←2", "syntax at 8"},
		{"⎕IO 5", "syntax at 6"},
		// Nothing stands behind them.
		{"⎕IO←0⋄", "syntax at 12"},
		{"⎕IO←1⋄", "syntax at 12"},
		{"⎕IO←0⋄  ", "syntax at 14"},
		{"⎕IO←1⋄⍝5", "syntax at 16"},
	}.check(t)
}

// TestOriginElsewhere: 17.2, ⎕IO and ⋄ elsewhere than at the beginning, and twice.
func TestOriginElsewhere(t *testing.T) {
	texts{
		{"⎕IO←0⋄⎕IO←0⋄1", "syntax at 12"},
		{"⎕IO←1⋄⎕IO←0⋄1", "syntax at 12"},
		{"⎕IO←0⋄⎕IO", "syntax at 12"},
		{"⎕IO←0⋄1+⎕IO", "syntax at 14"},
		{"(⎕IO←0⋄1)", "syntax at 1"},
		{"(⎕IO)←0⋄1", "syntax at 1"},
		{"+⎕IO←0⋄1", "syntax at 1"},
		{"1+⎕IO", "syntax at 2"},
		{"⍳⎕IO", "syntax at 3"},
		{"1⎕IO←0⋄1", "syntax at 1"},
		{"a ⎕IO←0⋄1", "syntax at 2"},
		{"a←⎕IO", "syntax at 4"},
		{"a←⎕IO←0⋄1", "syntax at 4"},
		{"{⎕IO←0⋄⍵}1", "syntax at 1"},
		{"{⍵+⎕IO}1", "syntax at 5"},
		{"a[⎕IO]", "syntax at 2"},
		{"⍝⎕IO←0⋄1", "syntax at 16"},
		{"⋄", "syntax at 0"},
		{"⋄1", "syntax at 0"},
		{"1⋄", "syntax at 1"},
		{"1⋄2", "syntax at 1"},
		{"a←1⋄2", "syntax at 5"},
		{"a←⋄1", "syntax at 4"},
		{"a⋄←1", "syntax at 1"},
		{"1⋄⎕IO←0", "syntax at 1"},
		{"0⋄1", "syntax at 1"},
		{"←0⋄1", "syntax at 0"},
		{"⎕IO←0⋄⋄1", "syntax at 12"},
		{"⎕IO←0⋄1⋄2", "syntax at 13"},
		{"⎕IO←0⋄1⋄", "syntax at 13"},
		{"⎕IO←0⋄a⋄1", "syntax at 13"},
		{"⎕IO←0⋄a←1⋄2", "syntax at 17"},
		{"(1⋄2)", "syntax at 2"},
		{"{1⋄⍵}2", "syntax at 2"},
		// In a text they are signs as any other.
		{"'⎕IO←0⋄'", "1: [c9109 c73 c79 c8592 c48 c8900]"},
	}.check(t)
}

// TestSet: 17.2, a name and ← first.
func TestSet(t *testing.T) {
	texts{
		{"a←1", "1: a = 1@4"},
		{"  a  ←  1  ", "1: a = 1@10"},
		{"a←a", "1: a = a@4"},
		{"w←-1", "1: w = mo@4(-@4 1@5)"},
		{"b1←2 3", "1: b1 = [2 3]@5"},
		{"abcdefgh←'it'", "1: abcdefgh = [c105 c116]@11"},
		{"q1234567←1", "1: q1234567 = 1@11"},
		{"a←(b)", "1: a = b@5"},
		{"a←⍳ 1 ¯2⍝b←1", "1: a = mo@4(⍳@4 [1 -2]@8)"},
		{"⎕IO←0⋄a←1", "0: a = 1@16"},
		{"⎕IO←1⋄b←a+1", "1: b = dy@16(+@17 a@16 1@18)"},
	}.check(t)
	for c := 'a'; c <= 'w'; c++ {
		texts{{string(c) + "←" + string(c), fmt.Sprintf("1: %c = %c@4", c, c)}}.check(t)
	}
}

// TestSetMissed: 17.2, where no name is set: a name without ←, ← without a name, what is no name, a second ←, nothing behind it.
func TestSetMissed(t *testing.T) {
	texts{
		// A name alone is an operand.
		{"a", "1: a@0"},
		{"abcdefgh", "1: abcdefgh@0"},
		{"a+1", "1: dy@0(+@1 a@0 1@2)"},
		{"⎕IO←0⋄a", "0: a@12"},
		{"a[1]", "1: index@0(a@0 1@2)"},
		{"a 1", "syntax at 2"},
		{"a b←1", "syntax at 2"},
		// ← without a name.
		{"←", "syntax at 0"},
		{"←1", "syntax at 0"},
		{" ←a", "syntax at 1"},
		{"⎕IO←0⋄←1", "syntax at 12"},
		// What is none, or stands not first.
		{"⍺←1", "syntax at 0"},
		{"⍵←1", "syntax at 0"},
		{"⎕IO←1", "syntax at 9"},
		{"⎕IO←a←1", "syntax at 8"},
		{"⎕IO←0⋄⍺←1", "syntax at 12"},
		{"⎕IO←0⋄⍵←1", "syntax at 12"},
		{"⎕IO←0⋄⎕IO←1", "syntax at 12"},
		{"1←1", "syntax at 1"},
		{"1 2←1", "syntax at 3"},
		{"'a'←1", "syntax at 3"},
		{"''←1", "syntax at 2"},
		{"+←1", "syntax at 1"},
		{"(a)←1", "syntax at 3"},
		{"(a←1)", "syntax at 2"},
		{"((a←1))", "syntax at 3"},
		{"a[1]←2", "syntax at 4"},
		{"-a←1", "syntax at 2"},
		{"1+a←2", "syntax at 3"},
		{"{a←⍵}1", "syntax at 2"},
		{"1a←1", "syntax at 1"},
		{"a1←1", "1: a1 = 1@5"},
		{"a+←1", "syntax at 2"},
		{"a(←)1", "syntax at 1"},
		// A second one behind the first.
		{"a←b←1", "syntax at 5"},
		{"a←a←1", "syntax at 5"},
		{"a←←1", "syntax at 4"},
		{"a←←", "syntax at 4"},
		{"⎕IO←0⋄a←b←1", "syntax at 17"},
		{"a←1←", "syntax at 5"},
		// Nothing behind it.
		{"a←", "syntax at 4"},
		{"a←   ", "syntax at 7"},
		{"a←⍝1", "syntax at 8"},
		{"⎕IO←0⋄a←", "syntax at 16"},
		{"⎕IO←1⋄a← ⍝1", "syntax at 21"},
	}.check(t)
}

// TestEnd: 17.2, the text ends where its bytes do: blanks and remarks are parts of it.
func TestEnd(t *testing.T) {
	for _, c := range []string{"1+", "-", "a←1-", "(1", "1[2", "⎕IO←0⋄(", "a←", "⎕IO←", "a←{⍵}", "+/", "1∘.+"} {
		for _, behind := range []string{"", " ", "    ", "⍝", "  ⍝ and more ←⋄⎕IO", "⍝\xff", strings.Repeat(" ", 5000)} {
			texts{{c + behind, fmt.Sprintf("syntax at %d", len(c+behind))}}.check(t)
		}
	}
}

// TestExpressionFaults: 17.2, the expression's faults, at their places in the whole text.
func TestExpressionFaults(t *testing.T) {
	for _, c := range []struct {
		text string
		err  string
		at   int
	}{
		{"1)", "syntax", 1},
		{")", "syntax", 0},
		{"(1]", "syntax", 2},
		{"()", "syntax", 1},
		{"1 a", "syntax", 2},
		{"a 1", "syntax", 2},
		{"1{⍺}2", "syntax", 1},
		{"{⍵", "syntax", 0},
		{"{⍺}2", "syntax", 0},
		{"+", "syntax", 1},
		{"+/", "syntax", 2},
		{"1+)", "syntax", 2},
		{"a[", "syntax", 2},
		{"[1]", "syntax", 0},
		{"a]", "syntax", 1},
		{"}", "syntax", 0},
		{strings.Repeat("-", 24) + "1", "deep", 23},
		{strings.Repeat("(", 24) + "1" + strings.Repeat(")", 24), "deep", 24},
	} {
		for _, ahead := range []string{"", " ", "a←", " a ← ", "⎕IO←0⋄", "⎕IO ← 1 ⋄ ", "⎕IO←0⋄b1←", "⎕IO ← 0 ⋄  abcdefgh  ← "} {
			texts{{ahead + c.text, fmt.Sprintf("%s at %d", c.err, c.at+len(ahead))}}.check(t)
		}
	}
}

// TestDeep: 17.2, expressions as deep as they may lie, with all that can stand ahead: that lies nowhere.
func TestDeep(t *testing.T) {
	for _, ahead := range []string{"", "a←", "⎕IO←0⋄", "⎕IO←1⋄a←"} {
		for _, text := range []string{strings.Repeat("-", 23) + "1", strings.Repeat("(", 23) + "1" + strings.Repeat(")", 23)} {
			if got := parsed(ahead + text); strings.Contains(got, " at ") {
				t.Errorf("%s%s: %s", ahead, text, got)
			}
		}
	}
}

// TestMaxText: 17.2, texts of MaxText bytes, and of one more, whatever they say.
func TestMaxText(t *testing.T) {
	for _, text := range []string{"1", "a←1", "⎕IO←0⋄a←1", "1+", "⎕IO", "a←", "$", "\xff"} {
		full := text + strings.Repeat(" ", api.MaxText-len(text))
		if got, want := parsed(full), parsed(text); got != want && want != fmt.Sprintf("syntax at %d", len(text)) {
			t.Errorf("%s filled up: %s; want %s", text, got, want)
		}
		texts{{full + " ", "long at 0"}, {" " + full, "long at 0"}, {full + "⍝", "long at 0"}}.check(t)
	}
	texts{
		{"1+" + strings.Repeat(" ", api.MaxText-2), fmt.Sprintf("syntax at %d", api.MaxText)},
		{"a←" + strings.Repeat(" ", api.MaxText-4), fmt.Sprintf("syntax at %d", api.MaxText)},
		{"⎕IO←" + strings.Repeat(" ", api.MaxText-8), fmt.Sprintf("syntax at %d", api.MaxText)},
		{strings.Repeat(" ", api.MaxText-1) + "5", fmt.Sprintf("1: 5@%d", api.MaxText-1)},
		{strings.Repeat(" ", 1<<20), "long at 0"},
	}.check(t)
}

// TestMaxTokens: 17.2, the words ahead of the expression are words as any other.
func TestMaxTokens(t *testing.T) {
	for _, c := range []struct {
		ahead string
		words int
	}{
		{"", 0}, {"a←", 2}, {"⎕IO←0⋄", 4}, {"⎕IO←1⋄a←", 6},
	} {
		text := c.ahead
		left := api.MaxTokens - c.words - 1
		for range left % 3 {
			text += "-"
		}
		text += "1" + strings.Repeat("[1]", left/3)
		if l, f := alex.Lex(text); len(l) != api.MaxTokens || f != (api.Fault{}) {
			t.Fatalf("the test's own text: %d words, %v", len(l), f)
		}
		if p, f := apl.Parse(text); f != (api.Fault{}) || p.Expr.Kind == 0 || (p.Set == "a") != strings.Contains(c.ahead, "a") {
			t.Errorf("%s: %v", short(text), f)
		}
		texts{
			{text + "+", fmt.Sprintf("long at %d", len(text))},
			{text + "  )", fmt.Sprintf("long at %d", len(text)+2)},
			{"-" + text, fmt.Sprintf("long at %d", len(text))},
		}.check(t)
	}
}
