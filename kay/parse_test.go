package kay_test

import (
	"fmt"
	"strings"
	"testing"

	"triglyph/api"
	"triglyph/kay"
	"triglyph/klex"
)

// TestExamples: the chapter's own.
func TestExamples(t *testing.T) {
	texts{
		{"a:1+!3", "a = dy@2(+@3 1@2 mo@4(!@4 3@5))"},
		{"1+:", "syntax at 2"},
		{"1+", "syntax at 2"},
		{"3{x+1}/5", "mo@1(pow3@1(lam1@1(dy@2(+@3 R@2 1@4))) 5@7)"},
	}.check(t)
	p, _ := kay.Parse("a:1+!3")
	pairs{{p, "a : 1 + ! 3"}}.check(t)
}

// TestEmpty: 19.2, texts without words: where they end an expression is missed.
func TestEmpty(t *testing.T) {
	texts{
		{"", "syntax at 0"},
		{" ", "syntax at 1"},
		{"     ", "syntax at 5"},
		{"/", "syntax at 1"},
		{"/ a:1", "syntax at 5"},
		{"  /a:1", "syntax at 6"},
	}.check(t)
}

// TestFaultsOfWords: 19.2, the words' faults come ahead of all others, wherever they are.
func TestFaultsOfWords(t *testing.T) {
	texts{
		{"$", "syntax at 0"},
		{`1 "a`, "syntax at 2"},
		{"a:\xff", "utf8 at 2"},
		{"1+\xe2\x8d", "utf8 at 2"},
		{"9223372036854775808", "syntax at 0"},
		{"1 -9223372036854775809", "syntax at 2"},
		{"abcdefghi:1", "syntax at 0"},
		{"a:abcdefghi", "syntax at 2"},
		{"z:1", "syntax at 0"},
		{"ax:1", "syntax at 0"},
		{"x1:1", "syntax at 0"},
		{"xy:1", "syntax at 0"},
		{"A:1", "syntax at 0"},
		{"a.:1", "syntax at 1"},
		{"a;1", "syntax at 1"},
		{"'a'", "syntax at 0"},
		{"\"a\x01b\"", "syntax at 2"},
		{"\"a\xffb\"", "utf8 at 2"},
		{`"a\n"`, "syntax at 2"},
		{`"a\`, "syntax at 0"},
		{`"a\"`, "syntax at 0"},
		{"a.b", "syntax at 1"},
		{"`a", "syntax at 0"},
		{"⍳3", "syntax at 0"},
		// A fault behind a beginning that is wrong, too.
		{"1+ $", "syntax at 3"},
		{"++\xff", "utf8 at 2"},
		{")$", "syntax at 1"},
		{"::\xff", "utf8 at 2"},
		{"x:1+z", "syntax at 4"},
		{"a:b:$", "syntax at 4"},
		{"a: \xff", "utf8 at 3"},
		{"{y}$", "syntax at 3"},
		{"4097{x}/$", "syntax at 8"},
		{strings.Repeat("-", 99) + "\xff", "utf8 at 99"},
		{strings.Repeat("(", 99) + `"`, "syntax at 99"},
		// Behind a remark there are no words.
		{"1 /\xff", "1"},
		{`a:1 /"`, "a = 1"},
	}.check(t)
}

// TestSet: 19.2, a name and : first.
func TestSet(t *testing.T) {
	texts{
		{"a:1", "a = 1@2"},
		{"  a  :  1  ", "a = 1@8"},
		{"a:a", "a = a@2"},
		{"w:-1", "w = -1@2"},
		{"w:- 1", "w = mo@2(-@2 1@4)"},
		{"b1:2 3", "b1 = [2 3]@3"},
		{`abcdefgh:"it"`, "abcdefgh = [c105 c116]@9"},
		{"q1234567:1", "q1234567 = 1@9"},
		{"a:(b)", "a = b@3"},
		{"a:{x}1", "a = mo@2(lam1@2(R@3) 1@5)"},
		{"a:b[1]", "a = index@2(b@2 1@4)"},
		{"a:! 1 -2 /b:1", "a = mo@2(!@2 [1 -2]@4)"},
		{"b:a+1", "b = dy@2(+@3 a@2 1@4)"},
		{"a:=1", "a = mo@2(=@2 1@3)"},
		{"a :1", "a = 1@3"},
		{"a: 1", "a = 1@3"},
	}.check(t)
	for c := 'a'; c <= 'w'; c++ {
		texts{{string(c) + ":" + string(c), fmt.Sprintf("%c = %c@2", c, c)}}.check(t)
	}
}

// TestSetMissed: 19.2, where no name is set: a name without :, : without a name, what is no name, a second :, nothing behind it.
func TestSetMissed(t *testing.T) {
	texts{
		// A name alone is an operand.
		{"a", "a@0"},
		{"abcdefgh", "abcdefgh@0"},
		{"a+1", "dy@0(+@1 a@0 1@2)"},
		{"a 1", "syntax at 2"},
		{"a b:1", "syntax at 2"},
		{"a!1", "dy@0(!@1 a@0 1@2)"},
		{"a=1", "dy@0(=@1 a@0 1@2)"},
		// : without a name.
		{":", "syntax at 0"},
		{":1", "syntax at 0"},
		{" :a", "syntax at 1"},
		{"::1", "syntax at 0"},
		{": : 1", "syntax at 0"},
		// What is none, or stands not first.
		{"x:1", "syntax at 0"},
		{"y:1", "syntax at 0"},
		{"x:", "syntax at 0"},
		{" y : x", "syntax at 1"},
		{"1:1", "syntax at 1"},
		{"1 2:1", "syntax at 3"},
		{`"a":1`, "syntax at 3"},
		{`"":1`, "syntax at 2"},
		{"+:1", "syntax at 1"},
		{"/:1", "syntax at 3"},
		{"(a):1", "syntax at 3"},
		{"(a:1)", "syntax at 2"},
		{"((a:1))", "syntax at 3"},
		{"-a:1", "syntax at 2"},
		{"1+a:2", "syntax at 3"},
		{"{a:x}1", "syntax at 2"},
		{"{x:1}1", "syntax at 2"},
		{"{x}:1", "syntax at 3"},
		{"(+):1", "syntax at 3"},
		{"a[1]:2", "syntax at 4"},
		{"a[b:1]", "syntax at 3"},
		{"3{a:x}/1", "syntax at 3"},
		{"1a:1", "syntax at 1"},
		{"a1:1", "a1 = 1@3"},
		{"a+:1", "syntax at 2"},
		{"a-:1", "syntax at 2"},
		{"a(:)1", "syntax at 1"},
		{`a":"1`, "syntax at 1"},
		{`"a:1"`, "[c97 c58 c49]@0"},
		// A second one behind the first.
		{"a:b:1", "syntax at 3"},
		{"a:a:1", "syntax at 3"},
		{"a::1", "syntax at 2"},
		{"a::", "syntax at 2"},
		{"a: :1", "syntax at 3"},
		{"a:1:", "syntax at 3"},
		{"a:b:", "syntax at 3"},
		{"a:(b:1)", "syntax at 4"},
		{"a:x:1", "syntax at 2"},
		// Nothing behind it.
		{"a:", "syntax at 2"},
		{"a:   ", "syntax at 5"},
		{"a: /1", "syntax at 5"},
		{"a:/1", "syntax at 2"},
		{"a:)", "syntax at 2"},
		{"a:]", "syntax at 2"},
	}.check(t)
}

// TestEnd: 19.2, the text ends where its bytes do: blanks and remarks are parts of it.
func TestEnd(t *testing.T) {
	for _, c := range []string{"1+", "-", "a:1-", "(1", "(+/", "(", "a:", "a:{x}", "+/", "3{x}/", "1 !", `+\`, "a[", "a[1", "a[b[1]", "1 2#", "(+)", "a:3{x-1}/"} {
		for _, behind := range []string{"", " ", "    ", " /", "  / and more :", " /\xff", strings.Repeat(" ", 5000)} {
			texts{{c + behind, fmt.Sprintf("syntax at %d", len(c+behind))}}.check(t)
		}
	}
}

// TestExpressionFaults: 19.2, the expression's faults, at their places in the whole text.
func TestExpressionFaults(t *testing.T) {
	for _, c := range []struct {
		text string
		err  string
		at   int
	}{
		{"1)", "syntax", 1},
		{")", "syntax", 0},
		{"(1}", "syntax", 2},
		{"(1]", "syntax", 2},
		{"()", "syntax", 1},
		{"1 a", "syntax", 2},
		{"a 1", "syntax", 2},
		{"1{y}2", "syntax", 1},
		{"{x", "syntax", 0},
		{"{y}2", "syntax", 0},
		{"+", "syntax", 1},
		{"+/", "syntax", 2},
		{"1+)", "syntax", 2},
		{"(+-)1", "syntax", 3},
		{"1(+-)1", "syntax", 1},
		{"4097{x}/1", "syntax", 4},
		{"a[1", "syntax", 3},
		{"[1]", "syntax", 0},
		{"}", "syntax", 0},
		{"y", "syntax", 0},
		{"1+x", "syntax", 2},
		{strings.Repeat("-", 24) + "a", "deep", 23},
		{strings.Repeat("(", 24) + "1" + strings.Repeat(")", 24), "deep", 24},
		{strings.Repeat("a[", 24) + "1" + strings.Repeat("]", 24), "deep", 48},
		{strings.Repeat("(", 23) + "+" + strings.Repeat(")", 23) + "1", "deep", 23},
		{strings.Repeat("3{x}/", 23) + "1", "deep", 112},
	} {
		for _, ahead := range []string{"", " ", "a:", " a : ", "b1:", " abcdefgh  :   "} {
			texts{{ahead + c.text, fmt.Sprintf("%s at %d", c.err, c.at+len(ahead))}}.check(t)
		}
	}
}

// TestDeep: 19.2, expressions as deep as they may lie, with a name that is set or not: that lies nowhere.
func TestDeep(t *testing.T) {
	for _, ahead := range []string{"", "a:", "abcdefgh : "} {
		for _, text := range []string{
			strings.Repeat("-", 23) + "a",
			strings.Repeat("(", 23) + "1" + strings.Repeat(")", 23),
			strings.Repeat("a[", 23) + "1" + strings.Repeat("]", 23),
			strings.Repeat("(", 22) + "+" + strings.Repeat(")", 22) + "1",
			strings.Repeat("{", 11) + "1" + strings.Repeat("}1", 11),
			strings.Repeat("3{x}/", 22) + "1",
		} {
			if got := parsed(ahead + text); strings.Contains(got, " at ") {
				t.Errorf("%s%s: %s", ahead, text, got)
			}
		}
	}
}

// TestMaxText: 19.2, texts of MaxText bytes, and of one more, whatever they say.
func TestMaxText(t *testing.T) {
	for _, text := range []string{"1", "a:1", "a[1]", "1+", "a", "a:", "$", "\xff"} {
		full := text + strings.Repeat(" ", api.MaxText-len(text))
		if got, want := parsed(full), parsed(text); got != want && want != fmt.Sprintf("syntax at %d", len(text)) {
			t.Errorf("%s filled up: %s; want %s", text, got, want)
		}
		texts{{full + " ", "long at 0"}, {" " + full, "long at 0"}, {full + " /", "long at 0"}}.check(t)
	}
	texts{
		{"1+" + strings.Repeat(" ", api.MaxText-2), fmt.Sprintf("syntax at %d", api.MaxText)},
		{"a:" + strings.Repeat(" ", api.MaxText-2), fmt.Sprintf("syntax at %d", api.MaxText)},
		{strings.Repeat(" ", api.MaxText-1) + "5", fmt.Sprintf("5@%d", api.MaxText-1)},
		{strings.Repeat(" ", 1<<20), "long at 0"},
	}.check(t)
}

// TestMaxTokens: 19.2, the words ahead of the expression are words as any other.
func TestMaxTokens(t *testing.T) {
	for _, c := range []struct {
		ahead string
		words int
	}{
		{"", 0}, {"a:", 2},
	} {
		left := api.MaxTokens - c.words - 2
		text := c.ahead + "+" + strings.Repeat("/", left) + "1"
		if l, f := klex.Lex(text); len(l) != api.MaxTokens || f != (api.Fault{}) {
			t.Fatalf("the test's own text: %d words, %v", len(l), f)
		}
		if p, f := kay.Parse(text); f != (api.Fault{}) || p.Expr.Kind != api.NMo || (p.Set == "a") != (c.ahead != "") {
			t.Errorf("%s: %v", short(text), f)
		}
		texts{
			{text + "+", fmt.Sprintf("long at %d", len(text))},
			{text + "  )", fmt.Sprintf("long at %d", len(text)+2)},
			{text + " z", fmt.Sprintf("long at %d", len(text)+1)},
			{text + " $", fmt.Sprintf("syntax at %d", len(text)+1)},
		}.check(t)
	}
}
