package spell_test

import (
	"math/rand"
	"strings"
	"testing"

	"triglyph/api"
	"triglyph/core"
	"triglyph/spell"
)

// back reads a text, writes it, reads that, and writes it again: 16.5 says what comes. It answers the program and its text; false, if the text is no program.
func (d dialect) back(t *testing.T, s string) (api.Node, string, bool) {
	t.Helper()
	n, f := d.read(s)
	if f != (api.Fault{}) {
		return api.Node{}, "", false
	}
	first, e := spell.Write(d.g, n)
	if e != api.OK {
		t.Fatalf("%s is not written: %v", short(s), e)
	}
	again, f := d.read(first)
	if f != (api.Fault{}) || !core.Same(n, again) {
		t.Fatalf("%s is written as %s: that is another program (%v)", short(s), short(first), f)
	}
	if second, e := spell.Write(d.g, again); second != first || e != api.OK {
		t.Fatalf("%s is written as %s, and then as %s (%v)", short(s), short(first), short(second), e)
	}
	return n, first, true
}

// texts are texts, each with the one that its program is written as.
type texts [][2]string

// check holds the way there and back against them.
func (l texts) check(t *testing.T, d dialect) {
	t.Helper()
	for _, c := range l {
		if _, got, is := d.back(t, c[0]); !is || got != c[1] {
			t.Errorf("%s: %s; want %s", short(c[0]), short(got), short(c[1]))
		}
		if _, got, _ := d.back(t, c[1]); got != c[1] {
			t.Errorf("%s: %s", short(c[1]), short(got))
		}
	}
}

// TestBackAPL: 16.5, texts of APL.
func TestBackAPL(t *testing.T) {
	texts{
		{"1", "1"},
		{"007", "7"},
		{"¯0", "0"},
		{"1   ¯2 ⍝ so", "1 ¯2"},
		{"'it''s'", "'it''s'"},
		{`'a"\'`, `'a"\'`},
		{"''", "''"},
		{"((a))", "a"},
		{"1+⍳3", "1 + ⍳ 3"},
		{"(1+2)+3", "( 1 + 2 ) + 3"},
		{"1+(2+3)", "1 + 2 + 3"},
		{"(-1)-(-2)", "( - 1 ) - - 2"},
		{"+/⍳4", "+/ ⍳ 4"},
		{"a/b", "a / b"},
		{"a//b", "a // b"},
		{"a(/)b", "a / b"},
		{"a(/⍨)b", "a /⍨ b"},
		{"a(/⍣2)b", "a ( /⍣2 ) b"},
		{"({⍵×2}⍣3)1", "( { ⍵ × 2 }⍣3 ) 1"},
		{"{⍵×2}⍣3 a", "( { ⍵ × 2 }⍣3 ) a"},
		{"{⍵×2}⍣3-a", "( { ⍵ × 2 }⍣3 ) - a"},
		{"{⍵×2}⍣007/a", "{ ⍵ × 2 }⍣7/ a"},
		{"+⍣2⍣3 a", "( +⍣2⍣3 ) a"},
		{"a∘.+b", "a ∘. + b"},
		{"a∘.(+)b", "a ∘. + b"},
		{"a∘.(+⍨)b", "a ∘. ( +⍨ ) b"},
		{"a∘.(∘.+)b", "a ∘. ( ∘. + ) b"},
		{"a∘.(+⍣2)b", "a ∘. ( +⍣2 ) b"},
		{"a∘.+⍣2-b", "a ( ∘. +⍣2 ) - b"},
		{"a∘.+/⍨b", "a ∘. +/⍨ b"},
		{"a{⍺+⍵}/b", "a { ⍺ + ⍵ }/ b"},
		{"{⍵+{⍵}⍵}1", "{ ⍵ + { ⍵ } ⍵ } 1"},
		{"1{⍺+{⍵}⍵}2", "1 { ⍺ + { ⍵ } ⍵ } 2"},
		{"a[1][2]", "a [ 1 ] [ 2 ]"},
		{"(a+b)[1+2]", "( a + b ) [ 1 + 2 ]"},
		{"(a[1])[2]", "a [ 1 ] [ 2 ]"},
		{"-a[b[1]]", "- a [ b [ 1 ] ]"},
	}.check(t, inAPL())
}

// TestBackJ: 16.5, texts of J.
func TestBackJ(t *testing.T) {
	texts{
		{"a", "a"},
		{"_5 3", "_5 3"},
		{"'it''s'", "'it''s'"},
		{"i.3", "i. 3"},
		{"1+i.3", "1 + i. 3"},
		{"(+/ * #) 1 2 3", "( +/ * # ) 1 2 3"},
		{"(+/*#)1 2 3", "( +/ * # ) 1 2 3"},
		{"((+/)(*)(#))1", "( +/ * # ) 1"},
		{"(+ -) 1", "( + - ) 1"},
		{"1 (+ (- *)) 2", "1 ( + ( - * ) ) 2"},
		{"(+ -)/ 1", "( + - )/ 1"},
		{`+/"1 (1 2)`, `+/"1 1 2`},
		{`+"1/~\ a`, `+"1/~\ a`},
		{"+/\\1", "+/\\ 1"},
		{"{{y*2}}^:3 a", "( {{ y * 2 }}^:3 ) a"},
		{"({{y*2}}^:3) 1", "( {{ y * 2 }}^:3 ) 1"},
		{"(+^:2 -) 1", "( +^:2 - ) 1"},
		{"(+^:2 -^:3 *) 1", "( +^:2 -^:3 * ) 1"},
		{`+^:2"1 a`, `+^:2"1 a`},
		{`+"1^:2 a`, `( +"1^:2 ) a`},
		{"1 {{x-y}}~ 2", "1 {{ x - y }}~ 2"},
		{"{{y-{{y}} y}} 2", "{{ y - {{ y }} y }} 2"},
		{"1{2", "1 { 2"},
		{"{{{.y}}1", "{{ {. y }} 1"},
		{"-. ~. /: a", "-. ~. /: a"},
	}.check(t, inJ())
}

// TestBackK: 16.5, texts of K.
func TestBackK(t *testing.T) {
	texts{
		{"a", "a"},
		{"-5 3", "-5 3"},
		{"a-1", "a - 1"},
		{"1--2", "1 - -2"},
		{"- 2", "- 2"},
		{"-(-2)", "- -2"},
		{`"it\"s \\ 'so' / no remark"`, `"it\"s \\ 'so' / no remark"`},
		{`""`, `""`},
		{"+/1+!4 / so", "+/ 1 + ! 4"},
		{"+\\+/a", "+\\ +/ a"},
		{"3{x+1}/5", "3 { x + 1 }/ 5"},
		{"(3)({x+1}/)(5)", "3 { x + 1 }/ 5"},
		{"(3{x}/5)-3{x}/5", "( 3 { x }/ 5 ) - 3 { x }/ 5"},
		{"- 3{x}/5", "- 3 { x }/ 5"},
		{"a{x}/5", "a { x }/ 5"},
		{"3{x+y}/5", "3 { x + y }/ 5"},
		{"3+/5", "3 +/ 5"},
		{"3{x}\\5", "3 { x }\\ 5"},
		{"{x}/5", "{ x }/ 5"},
		{"{x+{x}x}1", "{ x + { x } x } 1"},
		{"1{x+{x}y}2", "1 { x + { x } y } 2"},
		{"{x+x{x+y}x}1", "{ x + x { x + y } x } 1"},
		{"{3{x}/x}1", "{ 3 { x }/ x } 1"},
		{"a[1][-2]", "a [ 1 ] [ -2 ]"},
		{"7 8 9[!2]", "7 8 9 [ ! 2 ]"},
		{"(+a)[1]", "( + a ) [ 1 ]"},
	}.check(t, inK())
}

// speaker says texts of a dialect by chance: as they may be written, with brackets and blanks that need not be there.
type speaker struct {
	*rand.Rand
	d    dialect
	size int
}

// some is a blank or more.
func (s *speaker) some() string { return strings.Repeat(" ", 1+s.Intn(2)) }

// perhaps is a text in brackets, one time of so many.
func (s *speaker) perhaps(times int, text string) string {
	if s.Intn(times) == 0 {
		return "(" + s.some() + text + s.some() + ")"
	}
	return text
}

func (s *speaker) goesOn() bool {
	s.size--
	return s.size > 0 && s.Intn(5) > 0
}

// expression says one; argument is what may stand for an argument there, if something may.
func (s *speaker) expression(argument []string) string {
	if !s.goesOn() {
		return s.operand(argument)
	}
	switch s.Intn(5) {
	case 0, 1:
		return s.function(false) + s.some() + s.expression(argument)
	case 2:
		if s.d.g.Lone {
			return s.often() + s.some() + s.perhaps(4, s.lambda(s.d.g.Left)+"/") + s.some() + s.expression(argument)
		}
	}
	return s.operand(argument) + s.some() + s.function(true) + s.some() + s.expression(argument)
}

func (s *speaker) often() string { return []string{"0", "1", "2", "07", "4096"}[s.Intn(5)] }

func (s *speaker) operand(argument []string) string {
	words := append([]string{"a", "b1", "5", "07 8", s.d.g.Minus + "5", "5 " + s.d.g.Minus + "6", s.d.g.Quote + "a b" + s.d.g.Quote, s.d.g.Quote + s.d.g.Quote}, argument...)
	out := words[s.Intn(len(words))]
	if s.goesOn() && s.Intn(3) == 0 {
		out = "(" + s.some() + s.expression(argument) + s.some() + ")"
	}
	for s.d.g.Square && s.goesOn() && s.Intn(4) == 0 {
		out += s.some() + "[" + s.some() + s.expression(argument) + s.some() + "]"
	}
	return s.perhaps(6, out)
}

func (s *speaker) function(behind bool) string {
	out := s.stem(behind)
	if s.d.g.Outer != "" && s.Intn(6) == 0 {
		out = s.d.g.Outer + s.some() + s.stem(false)
	}
	for s.Intn(3) == 0 {
		if s.d.g.Power != "" && s.Intn(3) == 0 {
			out += s.d.g.Power + s.often()
		} else {
			out += s.d.g.Adverbs[s.Intn(len(s.d.g.Adverbs))]
		}
	}
	// Brackets lest a number be read together with how often.
	return "(" + s.some() + out + s.some() + ")"
}

func (s *speaker) stem(behind bool) string {
	g := s.d.g
	switch {
	case s.goesOn() && s.Intn(3) == 0:
		alone := g.Right
		if g.Lone {
			alone = g.Left
		}
		return s.perhaps(6, s.lambda(alone))
	case g.Trains && s.goesOn() && s.Intn(3) == 0:
		out := s.function(behind) + s.some() + s.function(behind)
		if s.Intn(2) == 0 {
			out += s.some() + s.function(behind)
		}
		return "(" + s.some() + out + s.some() + ")"
	case behind && len(g.Behind) > 0 && s.Intn(4) == 0:
		return s.perhaps(6, g.Behind[s.Intn(len(g.Behind))])
	}
	return s.perhaps(6, g.Verbs[s.Intn(len(g.Verbs))])
}

// lambda says a function's text: of one argument, or, now and then, of both.
func (s *speaker) lambda(alone string) string {
	g := s.d.g
	x := s.expression([]string{alone, alone, alone})
	if s.Intn(3) == 0 {
		both := []string{g.Left, g.Right, g.Left, g.Right}
		x = g.Left + s.some() + s.function(true) + s.some() + s.operand(both) + s.some() + s.function(true) + s.some() + g.Right
	}
	return g.Open + s.some() + x + s.some() + g.Close
}

// TestBackChance: 16.5, texts of each dialect by chance; also without their blanks, where they are still texts.
func TestBackChance(t *testing.T) {
	t.Parallel()
	r := rand.New(rand.NewSource(165))
	for i, d := range []dialect{inAPL(), inJ(), inK()} {
		seen, programs := map[int]int{}, 0
		for range 12000 {
			s := &speaker{Rand: r, d: d, size: r.Intn(25)}
			text := s.expression(nil)
			for _, said := range []string{text, strings.ReplaceAll(text, " ", "")} {
				if n, _, is := d.back(t, said); is {
					programs++
					count(n, seen)
				}
			}
		}
		if programs < 12000 {
			t.Errorf("dialect %d: %d programs", i, programs)
		}
		for kind := range shapes {
			train := kind == api.NHook || kind == api.NFork
			if seen[kind] < 300 && train == d.g.Trains && (kind != api.NOuter || d.g.Outer != "") && (kind != api.NIndex || d.g.Square) {
				t.Errorf("dialect %d, kind %d: %d times", i, kind, seen[kind])
			}
		}
	}
}

// TestBackShort: 16.5, all short rows of words of each dialect that are programs.
func TestBackShort(t *testing.T) {
	t.Parallel()
	for _, c := range []struct {
		d     dialect
		words []string
		least int
	}{
		{inAPL(), strings.Fields("1 a + / ⍣2 ∘. ( ) {⍵} {⍺+⍵} [1]"), 2000},
		{inJ(), strings.Fields(`1 a - / "1 ^:2 ( ) {{y}} {{x-y}}`), 2000},
		{inK(), strings.Fields("1 a - / ( ) {x} {x-y} [1]"), 2000},
	} {
		programs := 0
		var say func(text string, many int)
		say = func(text string, many int) {
			if _, _, is := c.d.back(t, text); is {
				programs++
			}
			if many == 0 {
				return
			}
			for _, word := range c.words {
				glue := " "
				// In K a / behind a blank begins a remark.
				if word == "/" {
					glue = ""
				}
				say(text+glue+word, many-1)
			}
		}
		for _, word := range c.words {
			say(word, 4)
		}
		if programs < c.least {
			t.Errorf("%v: %d programs", c.words, programs)
		}
	}
}

// TestBackDeep: 16.5, what lies as deep as it may is written as a text of the same depth, but where an NPow comes into brackets that the text had not.
func TestBackDeep(t *testing.T) {
	for _, c := range []struct {
		d                  dialect
		ahead, mid, behind string
		many               int
	}{
		{inAPL(), "-", "1", "", 23},
		{inAPL(), "(1+", "2", ")-3", 11},
		{inAPL(), "a[", "1", "]", 23},
		{inAPL(), "{", "⍵", "}1", 11},
		{inAPL(), "∘.(", "+", "/)", 21},
		{inAPL(), "-⍣2 ", "a", "", 22},
		{inJ(), "(+ ", "-", ")", 21},
		{inK(), "3{x}/", "1", "", 22},
		{inK(), "{3{x}/", "1", "}x", 7},
	} {
		text := strings.Repeat(c.ahead, c.many) + c.mid + strings.Repeat(c.behind, c.many)
		if c.mid == "+" || c.mid == "-" {
			text = "(" + text + ")1"
		}
		if strings.HasSuffix(text, "x") {
			text = text[:len(text)-1] + "1"
		}
		if _, _, is := c.d.back(t, text); !is {
			t.Errorf("%s is no program", text)
		}
	}
	text := strings.Repeat("-", 22) + "-⍣2 a"
	n, f := inAPL().read(text)
	s, e := spell.Write(aplGrammar(), n)
	if f != (api.Fault{}) || e != api.OK || s != strings.Repeat("- ", 22)+"( -⍣2 ) a" {
		t.Errorf("%s: %v, %s, %v", text, f, s, e)
	}
	if _, f := inAPL().read(s); f.Err != api.ErrDeep {
		t.Errorf("%s: %v", s, f)
	}
}

// TestBackGreat: 16.5, a text of nearly as many nodes as there may be.
func TestBackGreat(t *testing.T) {
	for _, text := range []string{
		"-" + strings.Repeat("/", 2000) + "1",
		"-" + strings.Repeat("⍣2", 1000) + "a",
		"a" + strings.Repeat("[1]", 500),
		strings.Repeat("1 ", 2000),
		"'" + strings.Repeat("''", 2000) + "'",
	} {
		if _, _, is := inAPL().back(t, text); !is {
			t.Errorf("%s is no program", short(text))
		}
	}
	if _, _, is := inK().back(t, "{x"+strings.Repeat("[x]", 500)+"}1"); !is {
		t.Error("brackets in a text")
	}
}
