package spell_test

import (
	"testing"

	"triglyph/api"
)

// TestExpressions: 16.3, of whatever grammar: calls, operands, brackets, and the blanks between.
func TestExpressions(t *testing.T) {
	a, b, plus, minus := name("a"), name("b"), verb("+"), verb("-")
	l := pairs{
		{a, "a"},
		{num(1), "1"},
		{nums(1, 2), "1 2"},
		{mo(plus, a), "+ a"},
		{mo(plus, mo(minus, a)), "+ - a"},
		{mo(plus, num(1)), "+ 1"},
		{mo(plus, nums(1, 2)), "+ 1 2"},
		{dy(plus, a, b), "a + b"},
		{dy(plus, nums(1, 2), num(3)), "1 2 + 3"},
		{dy(plus, a, dy(minus, b, a)), "a + b - a"},
		{dy(plus, a, mo(minus, b)), "a + - b"},
		{mo(plus, dy(minus, a, b)), "+ a - b"},
		{dy(plus, dy(minus, a, b), a), "( a - b ) + a"},
		{dy(plus, mo(minus, a), b), "( - a ) + b"},
		{dy(plus, mo(minus, a), mo(minus, b)), "( - a ) + - b"},
		{dy(plus, dy(plus, dy(plus, a, a), a), a), "( ( a + a ) + a ) + a"},
		{dy(plus, mo(minus, dy(minus, mo(plus, a), b)), b), "( - ( + a ) - b ) + b"},
		{index(a, b), "a [ b ]"},
		{index(nums(7, 8), num(1)), "7 8 [ 1 ]"},
		{index(index(a, b), num(2)), "a [ b ] [ 2 ]"},
		{index(a, index(b, num(2))), "a [ b [ 2 ] ]"},
		{index(mo(plus, a), b), "( + a ) [ b ]"},
		{index(dy(plus, a, b), b), "( a + b ) [ b ]"},
		{index(a, mo(plus, b)), "a [ + b ]"},
		{index(a, dy(plus, b, b)), "a [ b + b ]"},
		{index(a, dy(plus, mo(minus, b), b)), "a [ ( - b ) + b ]"},
		{index(index(mo(plus, a), b), mo(plus, b)), "( + a ) [ b ] [ + b ]"},
		{dy(plus, index(a, b), index(b, a)), "a [ b ] + b [ a ]"},
		{mo(plus, index(a, b)), "+ a [ b ]"},
	}
	for _, g := range someGrammars() {
		l.check(t, g)
	}
	pairs{{text("it's"), "'it''s'"}, {index(text("ab"), num(-1)), "'ab' [ ¯1 ]"}, {dy(minus, num(-1), num(-2)), "¯1 - ¯2"}}.check(t, aplGrammar())
	pairs{{text(`it"s`), `"it\"s"`}, {index(text("ab"), num(-1)), `"ab" [ -1 ]`}, {dy(minus, num(-1), num(-2)), "-1 - -2"}, {mo(minus, num(2)), "- 2"}}.check(t, kGrammar())
}

// TestFunctions: 16.4, of whatever grammar: names, texts, signs behind, trains.
func TestFunctions(t *testing.T) {
	a, plus, minus := name("a"), verb("+"), verb("-")
	slash := adverb("/", plus)
	l := []pair{
		{plus, "+"},
		{verb("max of"), "max of"},
		{slash, "+/"},
		{adverb("\\", slash), "+/\\"},
		{adverb("over", minus), "-over"},
		{lam1(a), "OPEN a CLOSE"},
		{lam1(mo(plus, a)), "OPEN + a CLOSE"},
		{lam2(dy(plus, left(), right())), "OPEN LEFT + RIGHT CLOSE"},
		{adverb("/", lam2(dy(plus, left(), right()))), "OPEN LEFT + RIGHT CLOSE/"},
		{hook(plus, minus), "( + - )"},
		{fork(plus, minus, plus), "( + - + )"},
		{adverb("/", hook(plus, minus)), "( + - )/"},
		{adverb("/", fork(plus, minus, plus)), "( + - + )/"},
		{hook(slash, adverb("\\", minus)), "( +/ -\\ )"},
		{hook(hook(plus, minus), fork(minus, plus, slash)), "( ( + - ) ( - + +/ ) )"},
		{fork(hook(plus, minus), lam1(a), fork(plus, plus, plus)), "( ( + - ) OPEN a CLOSE ( + + + ) )"},
		{fork(outer(plus), minus, outer(slash)), "( OUTER + - OUTER ( +/ ) )"},
		{hook(power(2, plus), power(3, minus)), "( +POWER2 -POWER3 )"},
		{fork(power(2, plus), power(0, lam1(a)), power(3, minus)), "( +POWER2 OPEN a CLOSEPOWER0 -POWER3 )"},
		{outer(plus), "OUTER +"},
		{outer(lam1(a)), "OUTER OPEN a CLOSE"},
		{outer(lam2(left())), "OUTER OPEN LEFT CLOSE"},
		{outer(hook(plus, minus)), "OUTER ( + - )"},
		{outer(fork(plus, minus, plus)), "OUTER ( + - + )"},
		{outer(slash), "OUTER ( +/ )"},
		{outer(outer(plus)), "OUTER ( OUTER + )"},
		{outer(power(2, plus)), "OUTER ( +POWER2 )"},
		{outer(adverb("/", outer(plus))), "OUTER ( OUTER +/ )"},
		{outer(outer(outer(plus))), "OUTER ( OUTER ( OUTER + ) )"},
		{adverb("/", outer(plus)), "OUTER +/"},
		{adverb("/", outer(slash)), "OUTER ( +/ )/"},
		{adverb("/", adverb("\\", outer(power(2, plus)))), "OUTER ( +POWER2 )\\/"},
	}
	for _, g := range someGrammars() {
		for _, c := range l {
			inCalls(t, g, c.n, inWords(g, c.want))
		}
	}
}

// TestPower: 16.3 and 16.4, NPow with what is behind it, and with what it is behind.
func TestPower(t *testing.T) {
	a, plus := name("a"), verb("+")
	two := power(2, plus)
	l := []pair{
		{adverb("/", two), "+POWER2/"},
		{adverb("\\", adverb("/", two)), "+POWER2/\\"},
		{adverb("/", power(10, lam1(a))), "OPEN a CLOSEPOWER10/"},
		{adverb("/", power(2, outer(plus))), "OUTER +POWER2/"},
		{adverb("/", power(2, hook(plus, plus))), "( + + )POWER2/"},
		{adverb("/", power(3, two)), "+POWER2POWER3/"},
		{adverb("/", power(3, adverb("\\", two))), "+POWER2\\POWER3/"},
	}
	for _, g := range someGrammars() {
		for _, c := range l {
			inCalls(t, g, c.n, inWords(g, c.want))
		}
	}
	for _, c := range []pair{
		{two, "( +POWER2 )"},
		{power(0, plus), "( +POWER0 )"},
		{power(4096, plus), "( +POWER4096 )"},
		{power(4097, plus), "( +POWER4097 )"},
		{power(1<<62, plus), "( +POWER4611686018427387904 )"},
		{power(3, two), "( +POWER2POWER3 )"},
		{power(3, adverb("/", two)), "( +POWER2/POWER3 )"},
		{power(3, outer(two)), "( OUTER ( +POWER2 )POWER3 )"},
		{power(3, lam1(a)), "( OPEN a CLOSEPOWER3 )"},
		{power(3, lam2(mo(plus, left()))), "( OPEN + LEFT CLOSEPOWER3 )"},
		{power(3, fork(plus, two, plus)), "( ( + +POWER2 + )POWER3 )"},
	} {
		for _, g := range someGrammars() {
			if !g.Lone {
				inCalls(t, g, c.n, inWords(g, c.want))
			}
			pairs{{dy(c.n, num(1), a), "1 " + inWords(g, c.want) + " a"}}.check(t, g)
		}
	}
}

// TestLonePower: 16.3, of a grammar that is Lone how often stands ahead, where an NPow is an NMo's function; nowhere else.
func TestLonePower(t *testing.T) {
	a, plus := name("a"), verb("+")
	text := lam1(right())
	pairs{
		{mo(power(3, text), a), "3 { x }/ a"},
		{mo(power(3, text), num(5)), "3 { x }/ 5"},
		{mo(power(0, text), nums(5, 6)), "0 { x }/ 5 6"},
		{mo(power(4097, text), a), "4097 { x }/ a"},
		{mo(power(-3, text), a), "-3 { x }/ a"},
		{mo(power(-1<<63, text), a), "-9223372036854775808 { x }/ a"},
		{mo(power(3, lam2(dy(plus, left(), right()))), a), "3 { x + y }/ a"},
		{mo(power(3, plus), a), "3 +/ a"},
		{mo(power(3, adverb("/", plus)), a), "3 +// a"},
		{mo(power(3, hook(plus, plus)), a), "3 ( + + )/ a"},
		{mo(power(3, text), mo(power(4, text), a)), "3 { x }/ 4 { x }/ a"},
		{mo(plus, mo(power(4, text), a)), "+ 4 { x }/ a"},
		{dy(plus, a, mo(power(4, text), a)), "a + 4 { x }/ a"},
		{dy(plus, mo(power(4, text), a), a), "( 4 { x }/ a ) + a"},
		{index(mo(power(4, text), a), mo(power(5, text), a)), "( 4 { x }/ a ) [ 5 { x }/ a ]"},
		{mo(power(3, lam1(mo(power(4, text), right()))), a), "3 { 4 { x }/ x }/ a"},
		{mo(adverb("/", text), a), "{ x }/ a"},
		{dy(adverb("/", text), a, a), "a { x }/ a"},
	}.check(t, kGrammar())
	lone := fullGrammar()
	pairs{
		{mo(power(-3, text), a), "¯3 { ⍺ }/ a"},
		{mo(power(3, power(2, text)), a), "3 { ⍺ }⍣2/ a"},
		{mo(power(3, outer(plus)), a), "3 ∘. +/ a"},
		{mo(adverb("/", power(3, text)), a), "{ ⍺ }⍣3/ a"},
		{mo(outer(power(3, text)), a), "∘. ( { ⍺ }⍣3 ) a"},
		{mo(hook(power(3, text), plus), a), "( { ⍺ }⍣3 + ) a"},
		{dy(power(3, text), a, a), "a ( { ⍺ }⍣3 ) a"},
		{dy(power(3, text), num(2), a), "2 ( { ⍺ }⍣3 ) a"},
	}.check(t, lone)
	lone.Lone = false
	pairs{
		{mo(power(3, text), a), "( { ⍵ }⍣3 ) a"},
		{mo(power(3, power(2, text)), a), "( { ⍵ }⍣2⍣3 ) a"},
		{dy(power(3, text), a, a), "a ( { ⍵ }⍣3 ) a"},
		{mo(adverb("/", power(3, text)), a), "{ ⍵ }⍣3/ a"},
		{mo(hook(power(3, text), plus), a), "( { ⍵ }⍣3 + ) a"},
	}.check(t, lone)
}

// TestArguments: 16.4, what the right argument is called hangs on the text that it stands in, and on no other.
func TestArguments(t *testing.T) {
	plus := verb("+")
	both := dy(plus, left(), right())
	within1 := dy(plus, right(), mo(lam1(right()), right()))
	within2 := dy(plus, right(), dy(lam2(both), right(), right()))
	l := []struct {
		n           api.Node
		plain, lone string
	}{
		{left(), "L", "L"},
		{right(), "R", "R"},
		{both, "L + R", "L + R"},
		{mo(lam1(right()), right()), "{ R } R", "{ L } R"},
		{mo(lam1(left()), left()), "{ L } L", "{ L } L"},
		{mo(lam1(both), right()), "{ L + R } R", "{ L + L } R"},
		{mo(lam2(both), right()), "{ L + R } R", "{ L + R } R"},
		{mo(lam2(right()), right()), "{ R } R", "{ R } R"},
		{mo(lam1(within1), right()), "{ R + { R } R } R", "{ L + { L } L } R"},
		{mo(lam1(within2), right()), "{ R + R { L + R } R } R", "{ L + L { L + R } L } R"},
		{mo(lam2(within1), right()), "{ R + { R } R } R", "{ R + { L } R } R"},
		{mo(lam2(within2), right()), "{ R + R { L + R } R } R", "{ R + R { L + R } R } R"},
		{mo(lam1(index(right(), right())), right()), "{ R [ R ] } R", "{ L [ L ] } R"},
		{dy(hook(lam1(right()), lam2(both)), right(), right()), "R ( { R } { L + R } ) R", "R ( { L } { L + R } ) R"},
		{mo(lam2(mo(adverb("/", lam1(mo(outer(lam2(right())), right()))), right())), left()), "{ { ∘. { R } R }/ R } L", "{ { ∘. { R } L }/ R } L"},
	}
	g := api.Grammar{Open: "{", Close: "}", Left: "L", Right: "R", Outer: "∘."}
	lone := g
	lone.Lone = true
	for _, c := range l {
		pairs{{c.n, c.plain}}.check(t, g)
		pairs{{c.n, c.lone}}.check(t, lone)
	}
	pairs{
		{mo(lam1(mo(power(2, lam1(right())), right())), right()), "{ 2 { L }/ L } R"},
		{mo(power(2, lam2(mo(power(3, lam1(right())), right()))), right()), "2 { 3 { L }/ R }/ R"},
	}.check(t, lone)
}

// TestEmptyWords: 16.2, a Literal and an Outer that are empty texts are words as any other, with one blank behind them and one ahead, also where they stand first or last.
func TestEmptyWords(t *testing.T) {
	none, b, plus := nums(), name("b"), verb("+")
	each := outer(plus)
	l := pairs{
		{none, ""},
		{text(""), ""},
		{mo(plus, none), "+ "},
		{mo(adverb("/", plus), none), "+/ "},
		{dy(plus, none, b), " + b"},
		{dy(plus, text(""), b), " + b"},
		{dy(plus, b, none), "b + "},
		{dy(plus, none, none), " + "},
		{dy(plus, none, dy(plus, none, none)), " +  + "},
		{dy(plus, dy(plus, none, none), none), "(  +  ) + "},
		{dy(hook(plus, plus), none, b), " ( + + ) b"},
		{index(none, none), " [  ]"},
		{index(index(none, b), b), " [ b ] [ b ]"},
		{dy(plus, index(none, b), b), " [ b ] + b"},
		{mo(lam1(none), none), "{  } "},
		{dy(lam2(dy(plus, none, right())), none, b), " {  + y } b"},
		{mo(each, b), " + b"},
		{mo(each, none), " + "},
		{mo(each, mo(each, b)), " +  + b"},
		{mo(outer(each), b), " (  + ) b"},
		{mo(outer(adverb("/", plus)), b), " ( +/ ) b"},
		{mo(adverb("/", each), b), " +/ b"},
		{mo(outer(lam1(right())), b), " { y } b"},
		{mo(outer(fork(each, plus, plus)), b), " (  + + + ) b"},
		{dy(each, b, b), "b  + b"},
		{dy(each, none, none), "  + "},
		{mo(power(2, each), none), "(  +2 ) "},
		{dy(power(2, each), none, b), " (  +2 ) b"},
		{dy(power(2, plus), none, b), " ( +2 ) b"},
		{dy(plus, num(-5), num(-6)), "5 + 6"},
	}
	g := api.Grammar{Open: "{", Close: "}", Left: "x", Right: "y"}
	l.check(t, g)
	g.Quote = "'"
	pairs{{dy(plus, none, b), "'' + b"}, {mo(each, none), " + ''"}}.check(t, g)
	g.Quote, g.Outer = "", "∘."
	pairs{{dy(plus, none, b), " + b"}, {mo(each, none), "∘. + "}}.check(t, g)
	g.Lone = true
	pairs{{mo(power(2, plus), none), "2 +/ "}, {dy(plus, none, mo(power(2, plus), none)), " + 2 +/ "}}.check(t, g)
}

// TestPlaysNoPart: 16.2 to 16.4, what a kind does not name says nothing.
func TestPlaysNoPart(t *testing.T) {
	n := dy(adverb("/", verb("+")), mo(lam1(right()), num(1)), name("a"))
	want := "( { ⍵ } 1 ) +/ a"
	pairs{{n, want}}.check(t, aplGrammar())
	var dirty func(n api.Node) api.Node
	dirty = func(n api.Node) api.Node {
		n.At = -5
		n.Op = -7
		if n.Kind != api.NVar && n.Kind != api.NPrim && n.Kind != api.NAdv {
			n.Name = "name"
		}
		if n.Kind != api.NLit {
			n.Lit = api.Arr{Shape: []int{-1}, Cells: make([]api.Cell, 3)}
		}
		var parts []api.Node
		for _, part := range n.Kids {
			parts = append(parts, dirty(part))
		}
		n.Kids = parts
		return n
	}
	pairs{{dirty(n), want}}.check(t, aplGrammar())
	bare := aplGrammar()
	bare.Verbs, bare.Adverbs, bare.Behind, bare.Square = nil, nil, nil, false
	pairs{{n, want}, {mo(hook(verb("+"), verb("-")), index(name("a"), num(1))), "( + - ) a [ 1 ]"}}.check(t, bare)
}

// inWords is what is wanted, in a grammar's words.
func inWords(g api.Grammar, want string) string {
	out := ""
	for len(want) > 0 {
		word, said := want[:1], want[:1]
		for _, c := range [][2]string{{"OPEN", g.Open}, {"CLOSE", g.Close}, {"LEFT", g.Left}, {"RIGHT", g.Right}, {"OUTER", g.Outer}, {"POWER", g.Power}} {
			if len(want) >= len(c[0]) && want[:len(c[0])] == c[0] {
				word, said = c[0], c[1]
			}
		}
		out, want = out+said, want[len(word):]
	}
	return out
}

// inCalls holds Write of a function against what is wanted: as a function of one, of two, and as a part.
func inCalls(t *testing.T, g api.Grammar, f api.Node, want string) {
	t.Helper()
	a := name("a")
	l := pairs{
		{mo(f, a), want + " a"},
		{mo(f, nums(1, 2)), want + " 1 2"},
		{dy(f, a, a), "a " + want + " a"},
		{dy(f, nums(1, 2), num(3)), "1 2 " + want + " 3"},
		{dy(f, mo(f, a), mo(f, a)), "( " + want + " a ) " + want + " " + want + " a"},
		{mo(lam2(mo(f, a)), a), g.Open + " " + want + " a " + g.Close + " a"},
		{index(a, mo(f, a)), "a [ " + want + " a ]"},
	}
	if f.Kind != api.NPow {
		l = append(l,
			pair{mo(adverb("/", f), a), want + "/ a"},
			pair{mo(hook(f, f), a), "( " + want + " " + want + " ) a"},
			pair{mo(fork(f, verb("+"), f), a), "( " + want + " + " + want + " ) a"})
	}
	l.check(t, g)
}
