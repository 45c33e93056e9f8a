package kay_test

import (
	"fmt"
	"math"
	"runtime"
	"slices"
	"strings"
	"testing"

	"triglyph/api"
	"triglyph/arr"
	"triglyph/kay"
	"triglyph/spell"
)

// both is a program that sets nothing, and what it is printed as.
func both(n api.Node, want string) pair { return pair{line("", n), want} }

// counting is a program that says from where it counts.
func counting(set string, origin int, n api.Node) api.Program {
	return api.Program{Set: set, Origin: origin, Expr: n}
}

// TestPrint: 19.3, what stands ahead of the expression.
func TestPrint(t *testing.T) {
	five := dy(verb("+"), num(5), name("b"))
	pairs{
		{line("", five), "5 + b"},
		{line("a", five), "a : 5 + b"},
		{line("abcdefgh", num(1)), "abcdefgh : 1"},
		{line("b12", name("b12")), "b12 : b12"},
		{line("w", text("")), `w : ""`},
		{line("i", mo(verb("!"), num(3))), "i : ! 3"},
		{line("a", mo(verb("="), num(3))), "a : = 3"},
		{line("a", num(-3)), "a : -3"},
		{line("a", repeat(2, right(), num(-1))), "a : 2 { x }/ -1"},
		{line("a", index(name("a"), name("a"))), "a : a [ a ]"},
	}.check(t)
	for c := 'a'; c <= 'w'; c++ {
		pairs{{line(string(c), name(string(c))), string(c) + " : " + string(c)}}.check(t)
	}
}

// TestPrintExpressions: 19.3, the expression's text by K's grammar.
func TestPrintExpressions(t *testing.T) {
	a, b, plus, minus := name("a"), name("b"), verb("+"), verb("-")
	slash := adverb("/", plus)
	pairs{
		both(num(5), "5"),
		both(num(-5), "-5"),
		both(num(math.MaxInt64), "9223372036854775807"),
		both(num(math.MinInt64), "-9223372036854775808"),
		both(nums(1, -2, 3), "1 -2 3"),
		both(nums(), `""`),
		both(text(""), `""`),
		both(text("a"), `"a"`),
		both(text("it's"), `"it's"`),
		both(text(`"⍵\`), `"\"⍵\\"`),
		both(text(" / a : 1"), `" / a : 1"`),
		both(a, "a"),
		both(mo(verb("!"), num(3)), "! 3"),
		both(dy(plus, num(1), mo(verb("!"), num(3))), "1 + ! 3"),
		both(dy(plus, dy(plus, a, b), a), "( a + b ) + a"),
		both(dy(plus, mo(plus, a), a), "( + a ) + a"),
		// What is ahead of a minus: one that is a function has a blank behind it, one that begins a number a blank ahead.
		both(mo(minus, num(1)), "- 1"),
		both(mo(minus, num(-1)), "- -1"),
		both(dy(minus, num(1), num(1)), "1 - 1"),
		both(dy(minus, num(1), num(-1)), "1 - -1"),
		both(dy(minus, a, num(-1)), "a - -1"),
		both(dy(minus, nums(1, -1), nums(-1, 1)), "1 -1 - -1 1"),
		both(dy(plus, text("bc"), num(-1)), `"bc" + -1`),
		both(mo(minus, mo(minus, num(1))), "- - 1"),
		both(mo(lam1(num(-1)), num(-1)), "{ -1 } -1"),
		both(mo(adverb("/", minus), num(-1)), "-/ -1"),
		both(dy(minus, index(a, num(-1)), num(-1)), "a [ -1 ] - -1"),
		both(dy(minus, mo(minus, a), num(-1)), "( - a ) - -1"),
		// Signs behind a function.
		both(mo(slash, a), "+/ a"),
		both(mo(adverb(`\`, slash), a), `+/\ a`),
		both(mo(adverb("/", adverb(`\`, plus)), num(1)), `+\/ 1`),
		both(dy(adverb("/", slash), a, b), "a +// b"),
		both(mo(adverb("/", lam2(dy(plus, left(), right()))), a), "{ x + y }/ a"),
		both(mo(adverb("/", lam1(right())), a), "{ x }/ a"),
		// Functions by their texts: which argument is named is seen.
		both(mo(lam1(num(1)), a), "{ 1 } a"),
		both(mo(lam1(right()), a), "{ x } a"),
		both(dy(lam1(right()), a, b), "a { x } b"),
		both(dy(lam2(dy(plus, left(), right())), a, b), "a { x + y } b"),
		both(dy(lam2(dy(plus, right(), left())), a, b), "a { y + x } b"),
		both(mo(lam1(dy(plus, right(), mo(lam1(right()), right()))), a), "{ x + { x } x } a"),
		both(mo(lam1(dy(lam2(dy(minus, left(), right())), right(), right())), a), "{ x { x - y } x } a"),
		both(dy(lam2(dy(plus, left(), mo(lam1(right()), right()))), a, b), "a { x + { x } y } b"),
		both(dy(lam2(dy(plus, mo(lam1(index(right(), num(1))), right()), left())), a, b), "a { ( { x [ 1 ] } y ) + x } b"),
		// One that is done a number of times.
		both(repeat(3, dy(verb("*"), right(), num(2)), num(1)), "3 { x * 2 }/ 1"),
		both(repeat(0, right(), a), "0 { x }/ a"),
		both(repeat(4096, num(7), a), "4096 { 7 }/ a"),
		both(mo(minus, repeat(3, right(), num(5))), "- 3 { x }/ 5"),
		both(dy(minus, repeat(3, right(), num(5)), repeat(2, right(), num(5))), "( 3 { x }/ 5 ) - 2 { x }/ 5"),
		both(repeat(2, repeat(3, right(), right()), a), "2 { 3 { x }/ x }/ a"),
		both(repeat(2, right(), repeat(3, right(), a)), "2 { x }/ 3 { x }/ a"),
		both(index(repeat(3, right(), a), num(1)), "( 3 { x }/ a ) [ 1 ]"),
		both(index(a, repeat(3, right(), b)), "a [ 3 { x }/ b ]"),
		both(dy(adverb("/", lam1(right())), a, b), "a { x }/ b"),
		both(dy(adverb(`\`, lam1(right())), num(3), b), `3 { x }\ b`),
		both(dy(adverb("/", lam1(right())), index(num(3), num(0)), b), "3 [ 0 ] { x }/ b"),
		both(dy(adverb("/", lam1(right())), dy(plus, num(3), num(0)), b), "( 3 + 0 ) { x }/ b"),
		both(dy(adverb("/", lam2(dy(plus, left(), right()))), num(3), b), "3 { x + y }/ b"),
		both(dy(slash, num(3), b), "3 +/ b"),
		// Indexes.
		both(index(a, num(1)), "a [ 1 ]"),
		both(index(index(nums(5, 6), a), dy(plus, a, b)), "5 6 [ a ] [ a + b ]"),
		both(index(mo(plus, a), b), "( + a ) [ b ]"),
		both(index(dy(plus, a, b), mo(plus, b)), "( a + b ) [ + b ]"),
		both(index(a, index(b, index(a, num(0)))), "a [ b [ a [ 0 ] ] ]"),
		both(index(text("abc"), nums(0, 1)), `"abc" [ 0 1 ]`),
		both(mo(plus, index(a, b)), "+ a [ b ]"),
		both(dy(plus, index(a, b), index(b, a)), "a [ b ] + b [ a ]"),
		both(mo(lam2(index(left(), right())), a), "{ x [ y ] } a"),
	}.check(t)
	for _, s := range wanted().Verbs {
		pairs{
			both(mo(verb(s), a), s+" a"), both(dy(verb(s), a, b), "a "+s+" b"), both(mo(verb(s), num(1)), s+" 1"), both(dy(verb(s), num(-1), num(1)), "-1 "+s+" 1"),
			both(index(a, mo(verb(s), b)), "a [ "+s+" b ]"), both(repeat(2, mo(verb(s), right()), a), "2 { "+s+" x }/ a"),
		}.check(t)
		for _, behind := range wanted().Adverbs {
			pairs{both(mo(adverb(behind, verb(s)), num(1)), s+behind+" 1"), both(dy(adverb(behind, verb(s)), num(3), a), "3 "+s+behind+" a")}.check(t)
		}
	}
	for _, s := range wanted().Adverbs {
		pairs{both(mo(adverb(s, plus), a), "+"+s+" a"), both(dy(adverb(s, plus), a, b), "a +"+s+" b"), both(mo(adverb(s, adverb(s, plus)), num(1)), "+"+s+s+" 1")}.check(t)
	}
}

// TestPrintHead: 19.3, a Set that is no name, and an Origin that is not 0.
func TestPrintHead(t *testing.T) {
	for _, set := range []string{
		"x", "y", "z", "A", "1", "1a", "ax", "a_", "abcdefghi", "aaaaaaaaaaaaaaaa", " ", "a ", " a", "a b", "a:b", "a :", "a : b", ":", "/", "a /", "a/", "[", "a[1]",
		"\x00", "a\x00", "é", "\xff", "(a)", "+", `"a"`, `a"`, strings.Repeat("a", 1<<20),
	} {
		pairs{{line(set, num(1)), "error"}, {counting(set, 1, num(1)), "error"}}.check(t)
	}
	for _, origin := range []int{1, -1, 2, 3, 10, 256, 1 << 32, math.MaxInt, math.MinInt} {
		pairs{{counting("", origin, num(1)), "error"}, {counting("a", origin, num(1)), "error"}, {counting("x", origin, num(1)), "error"}}.check(t)
	}
	pairs{{counting("", 0, num(1)), "1"}, {counting("a", 0, num(1)), "a : 1"}, {api.Program{}, "error"}, {line("a", api.Node{}), "error"}}.check(t)
}

// TestPrintUnwritable: 19.3, expressions that spell.Write refuses.
func TestPrintUnwritable(t *testing.T) {
	a, plus := name("a"), verb("+")
	for i, n := range []api.Node{
		{}, {Kind: 7}, {Kind: -1}, {Kind: 100}, plus, lam1(a), adverb("/", plus), power(2, lam1(a)), of(api.NHook, plus, plus),
		of(api.NMo, plus), of(api.NMo, plus, a, a), of(api.NDy, plus, a), mo(a, a), mo(plus, plus), dy(plus, plus, a), dy(plus, a, plus), dy(a, a, a),
		mo(lam1(plus), a), mo(of(api.NLam1), a), mo(adverb("/", a), a), mo(power(1, a), a), mo(of(api.NPow), a), mo(of(api.NPow, lam1(a), lam1(a)), a),
		mo(of(api.NHook, plus, a), a), mo(of(api.NHook, plus), a), mo(of(api.NFork, plus, plus), a),
		dy(power(-1, lam1(a)), a, a), mo(adverb("/", power(-1, lam1(a))), a), mo(power(1, power(-1, lam1(a))), a),
		of(api.NIndex, a), of(api.NIndex, a, a, a), of(api.NIndex), index(a, plus), index(plus, a), index(a, lam1(a)), mo(of(api.NOuter, a), a),
		{Kind: api.NVar, Name: "a", Kids: []api.Node{a}}, {Kind: api.NLit, Lit: arr.Atom(1), Kids: []api.Node{a}},
		nums(5), {Kind: api.NLit}, {Kind: api.NLit, Lit: api.Arr{Shape: []int{1, 2}, Cells: arr.Nums([]int64{1, 2}).Cells}}, text("a\x01"), text("\x7f"), text("a\n"),
		{Kind: api.NLit, Lit: api.Arr{Cells: []api.Cell{{Kind: api.CInt, N: 1}, {Kind: api.CInt, N: 2}}}},
		{Kind: api.NLit, Lit: api.Arr{Shape: []int{2}, Cells: []api.Cell{{Kind: api.CInt, N: 1}, {Kind: api.CChar, N: 97}}}},
		{Kind: api.NLit, Lit: api.Arr{Cells: []api.Cell{{Kind: api.CBox, Box: []api.Arr{arr.Atom(1)}}}}},
		{Kind: api.NLit, Lit: api.Arr{Cells: []api.Cell{{Kind: api.CInt, N: 1, Box: []api.Arr{arr.Atom(1)}}}}},
		{Kind: api.NLit, Lit: api.Arr{Cells: []api.Cell{{Kind: api.CChar, N: 0xd800}}}},
		mo(of(api.NRedF, plus), a), mo(of(api.NComm, plus), a),
	} {
		for _, p := range []api.Program{line("", n), line("a", n), line("b", mo(plus, n)), line("b", index(a, n)), counting("", 1, n)} {
			if _, e := spell.Write(wanted(), p.Expr); e != api.ErrArg {
				t.Errorf("%d: can be written", i)
			}
			if got := printed(p); got != "error" {
				t.Errorf("%d: %s", i, short(got))
			}
		}
	}
}

// TestPrintOther: 19.3, expressions that can be written, but are read as others, or as none.
func TestPrintOther(t *testing.T) {
	a, b, plus, minus, g := name("a"), name("b"), verb("+"), verb("-"), wanted()
	one, two := lam1(right()), lam2(dy(plus, left(), right()))
	for i, n := range []api.Node{
		// A primitive's name that is no sign of a function.
		mo(verb("×"), a), mo(verb("⍳"), a), mo(verb("a"), a), mo(verb("x"), a), mo(verb("$"), a), mo(verb("."), a), mo(verb(";"), a), mo(verb("'"), a), mo(verb("i."), a), mo(verb("\xff"), a), mo(verb(":"), a), mo(verb(""), a), mo(verb("1"), a),
		mo(verb("/"), a), mo(verb(`\`), a), dy(verb("/"), a, b), dy(verb(`\`), a, b), dy(verb(":"), a, b), dy(verb("b"), a, b), dy(verb("x"), a, b), dy(verb(""), a, b), dy(verb("-1"), a, b), dy(verb(")"), a, b), dy(verb("}"), a, b), dy(verb("]"), a, b), dy(verb("["), a, b),
		mo(verb("+ -"), a), mo(verb("+-"), a), mo(verb("--"), a), mo(verb("+/"), a), mo(verb(" +"), a), mo(verb("+ "), a), mo(verb("(+)"), a), mo(verb("{x}"), a), mo(verb("{ x }"), a), mo(verb("3 { x }/"), a), mo(verb("1 +"), a), mo(verb("a : -"), a), mo(verb("a :"), a), mo(verb(" /"), a), mo(verb("+ /"), a),
		dy(verb("+ /"), a, b), dy(verb(" /"), a, b), dy(verb("[ 1 ] +"), a, b), dy(verb("3 { x }/"), a, b), dy(verb("+ 3 { x }/"), a, b), mo(adverb("/", verb("/")), a), dy(adverb("/", verb("/")), a, b), dy(adverb(`\`, verb(`\`)), a, b), mo(power(2, verb("{ x }")), a), mo(power(2, verb("{x}")), a),
		// A sign behind a function that is none, or more.
		mo(adverb("+", plus), a), mo(adverb("//", plus), a), mo(adverb(" /", plus), a), mo(adverb("/ ", plus), a), mo(adverb(`/\`, plus), a), mo(adverb(":", plus), a), mo(adverb("a", plus), b), mo(adverb("/ /", plus), b), mo(adverb("", plus), a), mo(adverb("⍨", plus), a), mo(adverb("~", plus), a), dy(adverb("+", plus), a, b), mo(adverb("'", plus), a), mo(adverb("[1]", plus), a), mo(adverb(") (", plus), a),
		// A name that is a word of its own, or none.
		name("x"), name("y"), name("z"), name(`"a"`), name(`""`), name("5"), name("-5"), name("1 2"), name("a b"), name("abcdefghi"), name("(a)"), name("a:b"), name("a : b"), name("a+b"), name("a - b"), name("- a"), name("a /"), name("a / b"), name("/"), name(""),
		name(" a"), name("a "), name(":"), name("+"), name("\xff"), name(")"), name("{x}"), name("⍵"), name("A"), name("a[1]"), name("a [ 1 ]"), name("3 { x }/ a"), name("a.b"), name("["), name("]"),
		mo(plus, name("x")), mo(lam1(name("x")), a), mo(lam1(name("y")), a), mo(lam2(dy(plus, name("x"), name("y"))), a), dy(lam2(dy(plus, name("x"), right())), a, b),
		// A literal of numbers beside one another.
		mo(verb("1"), num(2)), mo(verb("1"), nums(2, 3)), dy(verb("1"), a, b), dy(verb("1"), num(2), num(3)), dy(plus, num(1), name("2 3")), mo(power(3, verb("4")), a), mo(power(3, verb("4 { x }")), a), mo(verb("1"), mo(power(3, one), a)), mo(adverb("/1", plus), num(2)), mo(adverb(" 1", plus), num(2)), mo(adverb("1", plus), num(2)),
		// A minus that is read together with what is behind it, or apart from it.
		name("-1"), name("- 1"), name("-"), mo(adverb("-", plus), num(1)), mo(adverb("-1", plus), num(1)), mo(verb("-1"), num(1)), mo(verb("1 -"), num(1)), mo(verb("-"+"-1 +"), num(1)), dy(verb("- -"), num(1), num(1)), dy(verb("+ -"), num(1), num(1)),
		// An argument outside of a function's text, and a text that names others than its kind says.
		left(), right(), mo(plus, right()), dy(plus, left(), right()), index(a, right()), index(left(), a), mo(power(2, one), right()),
		mo(lam1(left()), a), mo(lam1(dy(plus, left(), right())), a), mo(lam1(dy(plus, left(), left())), a), mo(lam2(right()), a), mo(lam2(left()), a), mo(lam2(a), b), dy(lam1(left()), a, b), dy(lam2(right()), a, b), dy(lam2(left()), a, b),
		mo(lam1(mo(lam1(left()), right())), a), mo(lam2(dy(plus, right(), mo(two, right()))), a), mo(lam2(dy(plus, left(), mo(one, left()))), a), mo(power(2, lam1(left())), a), mo(power(2, lam1(index(left(), right()))), a),
		// A function so often, of what is none that a number ahead lets be done so often; and one of two that would be done so often.
		mo(power(2, plus), a), mo(power(2, minus), a), mo(power(2, two), a), mo(power(2, adverb("/", plus)), a), mo(power(2, adverb("/", one)), a), mo(power(2, adverb(`\`, one)), a), mo(power(2, power(3, one)), a), mo(power(2, lam2(a)), b),
		dy(power(2, one), a, b), dy(power(2, one), num(3), b), dy(power(0, plus), a, b), mo(adverb("/", power(2, one)), a), mo(adverb(`\`, power(2, plus)), a), dy(adverb("/", power(2, one)), a, b),
		dy(adverb("/", one), num(3), a), dy(adverb("/", one), num(0), a), dy(adverb("/", one), num(-1), a), dy(adverb("/", one), num(4097), a), dy(adverb("/", one), nums(1, 2), a), dy(adverb("/", one), nums(), a), dy(adverb("/", one), text("a"), a), dy(adverb("/", one), text("bc"), a), dy(adverb("/", lam1(num(7))), num(3), a),
		// A number that can't say how often.
		mo(power(4097, one), a), mo(power(math.MaxInt, one), a), mo(power(-1, one), a), mo(power(math.MinInt, one), a), dy(power(4097, one), a, b), mo(adverb("/", power(5000, one)), a), mo(power(4096+1<<32, one), a),
		// Trains, and a function for each with each, are none of K's.
		mo(of(api.NHook, plus, minus), a), dy(of(api.NHook, plus, minus), a, b), mo(of(api.NFork, plus, minus, plus), a), dy(of(api.NFork, plus, minus, plus), a, b), mo(adverb("/", of(api.NHook, plus, minus)), a), mo(power(2, of(api.NHook, plus, minus)), a),
		mo(of(api.NOuter, plus), a), dy(of(api.NOuter, plus), a, b), dy(of(api.NOuter, adverb("/", plus)), a, b), dy(of(api.NOuter, one), a, b), mo(adverb("/", of(api.NOuter, plus)), a),
	} {
		for j, p := range []api.Program{line("", n), line("a", n), line("b", mo(plus, n)), line("b", dy(plus, n, n)), line("", index(n, n))} {
			if _, e := spell.Write(g, p.Expr); e != api.OK {
				t.Errorf("%d, %d: can't be written", i, j)
			}
			if got := printed(p); got != "error" {
				t.Errorf("%d, %d: %s", i, j, short(got))
			}
		}
	}
}

// TestPrintNotNamed: 19.3, nodes with something in a field that reading leaves as it is; but where nodes begin plays no part.
func TestPrintNotNamed(t *testing.T) {
	for _, n := range kinds() {
		want := printed(line("a", whole(n)))
		if want == "error" {
			t.Fatalf("%+v is the test's own", n)
		}
		for _, change := range []func(m *api.Node){
			func(m *api.Node) { m.Op++ },
			func(m *api.Node) { m.Op = -m.Op - 1 },
			func(m *api.Node) { m.Name += "a" },
			func(m *api.Node) { m.Lit = arr.Atom(7) },
			func(m *api.Node) { m.Lit = api.Arr{Shape: []int{0}} },
			func(m *api.Node) { m.Lit.Cells = append(slices.Clone(m.Lit.Cells), api.Cell{N: 1}) },
			func(m *api.Node) { m.Lit = arr.Text([]int64{97, 98}) },
			func(m *api.Node) { m.Lit = boxed() },
		} {
			m := n
			change(&m)
			if sayNode(m) == sayNode(n) {
				continue
			}
			got, fits := printed(line("a", whole(m))), can(line("a", whole(m)))
			if (got != "error") != fits || !fits && got != "error" || fits && got == want {
				t.Errorf("%s: %s", sayNode(m), got)
			}
		}
		for _, at := range []int{1, -1, 99, math.MaxInt, math.MinInt} {
			m := n
			m.At = at
			if got := printed(line("a", whole(m))); got != want {
				t.Errorf("%s: %s; want %s", sayNode(m), got, want)
			}
		}
	}
}

// boxed is an atom that is a box about itself.
func boxed() api.Arr {
	a := api.Arr{Cells: []api.Cell{{Kind: api.CBox, Box: make([]api.Arr, 1)}}}
	a.Cells[0].Box[0] = a
	return a
}

// TestPrintText: 19.3, texts of MaxText bytes, and of one more, with what stands ahead.
func TestPrintText(t *testing.T) {
	for _, c := range []struct{ set, ahead string }{{"", ""}, {"a", "a : "}, {"b1", "b1 : "}, {"abcdefgh", "abcdefgh : "}} {
		most := api.MaxText - len(c.ahead)
		signs := strings.Repeat("s", most-2)
		list := strings.Repeat("1 ", (most-1)/2)
		numbers := slices.Repeat([]int64{1}, (most-1)/2)
		pairs{
			{line(c.set, text(signs)), c.ahead + `"` + signs + `"`},
			{line(c.set, text(signs+"s")), "error"},
			{line(c.set, text(signs[2:]+`"`)), c.ahead + `"` + signs[2:] + `\""`},
			{line(c.set, text(signs[1:]+`"`)), "error"},
			{line(c.set, text(signs[2:]+`\`)), c.ahead + `"` + signs[2:] + `\\"`},
			{line(c.set, text(signs[1:]+`\`)), "error"},
			{line(c.set, text(signs[3:]+"⍵")), c.ahead + `"` + signs[3:] + `⍵"`},
			{line(c.set, text(signs[2:]+"⍵")), "error"},
			{line(c.set, nums(numbers...)), c.ahead + list[:len(list)-1]},
			{line(c.set, nums(append(slices.Clone(numbers), 10, 100)...)), "error"},
		}.check(t)
	}
	// Signs behind a function have no blank ahead: no text says more nodes with so few bytes.
	f, behind := verb("-"), strings.Repeat("/", api.MaxTokens-3)
	for range len(behind) {
		f = adverb("/", f)
	}
	most := strings.Repeat("s", api.MaxText-len(behind)-len(`- ""`))
	pairs{both(mo(f, text(most)), "-"+behind+` "`+most+`"`), both(mo(f, text(most+"s")), "error")}.check(t)
	pairs{
		both(nums(slices.Repeat([]int64{5}, api.MaxText/2)...), strings.TrimSuffix(strings.Repeat("5 ", api.MaxText/2), " ")),
		both(nums(append(slices.Repeat([]int64{5}, api.MaxText/2-1), 55)...), strings.Repeat("5 ", api.MaxText/2-1)+"55"),
		both(nums(append(slices.Repeat([]int64{5}, api.MaxText/2-1), 555)...), "error"),
		both(nums(slices.Repeat([]int64{5}, api.MaxText/2+1)...), "error"),
		both(nums(slices.Repeat([]int64{5}, api.MaxCells)...), "error"),
		both(text(strings.Repeat(`"`, api.MaxText/2-1)), `"`+strings.Repeat(`\"`, api.MaxText/2-1)+`"`),
		both(text(strings.Repeat(`"`, api.MaxText/2)), "error"),
	}.check(t)
}

// TestPrintDeep: 19.3, expressions that lie as deep as they may, and deeper: brackets that are written count.
func TestPrintDeep(t *testing.T) {
	a, plus := name("a"), verb("+")
	chain := func(many int, n api.Node) api.Node {
		for range many {
			n = mo(plus, n)
		}
		return n
	}
	// within is lists looked up by what is looked up, so many times; again is so many functions done twice, of one another.
	within := func(many int) api.Node {
		n := a
		for range many {
			n = index(a, n)
		}
		return n
	}
	again := func(many int, n api.Node) api.Node {
		for range many {
			n = repeat(2, right(), n)
		}
		return n
	}
	lambdas := func(many int) api.Node {
		n := right()
		for range many {
			n = mo(lam1(n), right())
		}
		return mo(lam1(n), a)
	}
	ahead := func(many int) string { return strings.Repeat("+ ", many) }
	pairs{
		both(chain(23, a), ahead(23)+"a"),
		both(chain(24, a), "error"),
		both(chain(21, dy(plus, dy(plus, a, a), a)), ahead(21)+"( a + a ) + a"),
		both(chain(22, dy(plus, dy(plus, a, a), a)), "error"),
		both(chain(22, mo(adverb("/", plus), a)), ahead(22)+"+/ a"),
		both(chain(21, mo(lam1(right()), a)), ahead(21)+"{ x } a"),
		both(chain(22, mo(lam1(right()), a)), "error"),
		both(chain(21, mo(lam1(mo(plus, right())), a)), "error"),
		both(chain(21, repeat(2, right(), a)), ahead(21)+"2 { x }/ a"),
		both(chain(22, repeat(2, right(), a)), "error"),
		both(chain(21, repeat(2, mo(plus, right()), a)), "error"),
		both(again(22, a), strings.Repeat("2 { x }/ ", 22)+"a"),
		both(again(23, a), "error"),
		both(within(23), strings.Repeat("a [ ", 23)+"a"+strings.Repeat(" ]", 23)),
		both(within(24), "error"),
		both(chain(22, index(a, num(1))), ahead(22)+"a [ 1 ]"),
		both(chain(23, index(a, num(1))), "error"),
		both(chain(23, a), ahead(23)+"a"),
		both(chain(21, index(mo(plus, a), num(1))), ahead(21)+"( + a ) [ 1 ]"),
		both(chain(22, index(mo(plus, a), num(1))), "error"),
		both(lambdas(10), strings.Repeat("{ ", 11)+"x"+strings.Repeat(" } x", 10)+" } a"),
		both(lambdas(11), "error"),
		both(chain(1000, a), "error"),
		both(within(1000), "error"),
		{line("a", chain(23, a)), "a : " + ahead(23) + "a"},
		{line("a", chain(24, a)), "error"},
	}.check(t)
	// Indexes of indexes lie no deeper, however many they are.
	n := a
	for range 500 {
		n = index(n, a)
	}
	pairs{both(n, "a"+strings.Repeat(" [ a ]", 500)), both(chain(22, n), ahead(22)+"a"+strings.Repeat(" [ a ]", 500))}.check(t)
}

// TestPrintWords: 19.3, more words than may be, of nodes that are few enough; and more nodes than may be, of words that are few enough.
func TestPrintWords(t *testing.T) {
	minus, a := verb("-"), name("a")
	// An index is two nodes more, but three words.
	indexes := func(many int) api.Node {
		n := a
		for range many {
			n = index(n, a)
		}
		return n
	}
	slash := adverb("/", minus)
	for _, c := range []struct {
		p     api.Program
		words int
	}{
		{line("", indexes(682)), 2047},
		{line("", mo(minus, indexes(682))), 2048},
		{line("", mo(slash, indexes(682))), 2049},
		{line("", indexes(683)), 2050},
		{line("a", indexes(681)), 2046},
		{line("a", mo(slash, indexes(681))), 2048},
		{line("a", mo(adverb("/", slash), indexes(681))), 2049},
		{line("a", indexes(682)), 2049},
	} {
		s, e := spell.Write(wanted(), c.p.Expr)
		if c.p.Set != "" {
			s = c.p.Set + " : " + s
		}
		many := len(strings.Fields(strings.ReplaceAll(s, "/", " /")))
		if many != c.words || e != api.OK || count(c.p.Expr) > api.MaxTokens || len(s) > api.MaxText {
			t.Errorf("the test's own program: %d words, not %d (%v)", many, c.words, e)
		}
		if c.words > api.MaxTokens {
			s = "error"
		}
		pairs{{c.p, s}}.check(t)
	}
	f := minus
	for range api.MaxTokens - 3 {
		f = adverb("/", f)
	}
	pairs{
		both(mo(f, a), "-"+strings.Repeat("/", api.MaxTokens-3)+" a"),
		both(mo(adverb("/", f), a), "error"),
		{line("a", mo(f.Kids[0], a)), "a : -" + strings.Repeat("/", api.MaxTokens-4) + " a"},
		{line("a", mo(f, a)), "error"},
	}.check(t)
	// The first one has as many words as may be, and a node more; the second one far more nodes.
	for _, s := range []string{
		"-" + strings.Repeat("/", api.MaxTokens-2) + "a",
		"a" + strings.Repeat("["+strings.Repeat("a-", 22)+"a]", 43),
	} {
		p, f := kay.Parse(s)
		if f != (api.Fault{}) || count(p.Expr) <= api.MaxTokens {
			t.Fatalf("the test's own text: %v, %d nodes", f, count(p.Expr))
		}
		pairs{{p, "error"}}.check(t)
	}
}

// TestPrintShared: P1, nodes that share parts, names and literals, so that their text would be far too long; and such as are parts of themselves.
func TestPrintShared(t *testing.T) {
	most := nums(slices.Repeat([]int64{math.MinInt64}, api.MaxCells)...)
	long := name(strings.Repeat("a", 1<<24))
	for i, leaf := range []api.Node{most, long, verb(long.Name), name("a"), verb("+"), {}, {Kind: api.NLit, Lit: api.Arr{Shape: []int{0}}}} {
		x, f := leaf, leaf
		for range 9 {
			x = dy(verb("+"), x, x)
			f = of(api.NFork, f, f, f)
		}
		for j, n := range []api.Node{x, dy(verb("+"), x, x), mo(of(api.NHook, f, f), x), index(x, x), repeat(2, x, x), mo(f, name("a")), dy(f, x, x), mo(lam1(x), x)} {
			for range 50 {
				n = dy(verb("-"), n, n)
			}
			for _, p := range []api.Program{line("", n), line("a", n)} {
				if got := printed(p); got != "error" {
					t.Errorf("%d, %d: %s", i, j, short(got))
				}
			}
		}
	}
	for _, n := range kinds() {
		for i := range n.Kids {
			ring := n
			ring.Kids = slices.Clone(n.Kids)
			ring.Kids[i] = ring
			pairs{{line("a", ring), "error"}, {line("", whole(ring)), "error"}}.check(t)
		}
	}
	wide := api.Node{Kind: api.NMo, Kids: make([]api.Node, 1<<20)}
	deep := name("a")
	for range 1 << 16 {
		deep = mo(verb("+"), deep)
	}
	pairs{both(wide, "error"), both(deep, "error"), both(mo(verb("+"), long), "error")}.check(t)
}

// TestPrintSparing: P1, few enough nodes that share a long name or a great literal: what is no text by far takes no memory.
func TestPrintSparing(t *testing.T) {
	long := strings.Repeat("a", 1<<20)
	most := nums(slices.Repeat([]int64{math.MinInt64}, api.MaxCells)...)
	for i, leaf := range []api.Node{name(long), most, mo(verb(long), name("a")), mo(adverb(long, verb("+")), name("a")), repeat(2, name(long), most)} {
		n := leaf
		for range 8 {
			n = dy(verb("+"), n, n)
		}
		if many := count(n); many > api.MaxTokens {
			t.Fatalf("the test's own program: %d nodes", many)
		}
		var was, is runtime.MemStats
		runtime.ReadMemStats(&was)
		got := printed(line("a", n))
		runtime.ReadMemStats(&is)
		if used := is.TotalAlloc - was.TotalAlloc; got != "error" || used > 1<<22 {
			t.Errorf("%d: %s, with %d bytes", i, short(got), used)
		}
	}
}

// kinds are all kinds of nodes that K has, each with a node of it.
func kinds() []api.Node {
	a, plus := name("a"), verb("+")
	return []api.Node{
		num(1), nums(1, 2), text("bc"), text(""), a, mo(plus, a), dy(plus, a, a), index(a, num(1)),
		plus, lam1(a), lam1(right()), lam2(dy(plus, left(), right())), adverb("/", plus), power(2, lam1(a)),
	}
}

// whole is a program with a node in it.
func whole(n api.Node) api.Node {
	if n.Kind >= api.NPrim {
		return mo(n, num(1))
	}
	return mo(verb("+"), n)
}

// TestPrintNew: R3, what is handed in stays as it is, and what lies behind its lists plays no part. P7: printed twice it is the same.
func TestPrintNew(t *testing.T) {
	for _, n := range kinds() {
		p := line("b", whole(n))
		want := printed(p)
		p.Expr = roomy(p.Expr)
		was := memory(p.Expr)
		for range 2 {
			if got := printed(p); got != want || memory(p.Expr) != was {
				t.Errorf("%s; want %s", got, want)
			}
		}
	}
}

// memory is all that is in the memory of a node, what lies behind its lists too.
func memory(n api.Node) string {
	var out strings.Builder
	fmt.Fprintf(&out, "%d %d %q %v %v %d(", n.Kind, n.Op, n.Name, n.Lit.Shape[:cap(n.Lit.Shape)], n.Lit.Cells[:cap(n.Lit.Cells)], n.At)
	for _, part := range n.Kids[:cap(n.Kids)] {
		out.WriteString(memory(part))
	}
	return out.String() + ")"
}

// roomy is a node whose lists have more memory than they are long.
func roomy(n api.Node) api.Node {
	kids := make([]api.Node, 0, len(n.Kids)+2)
	for _, part := range n.Kids {
		kids = append(kids, roomy(part))
	}
	n.Kids = append(kids, verb("behind"), name("behind"))[:len(n.Kids)]
	shape := append(append(make([]int, 0, len(n.Lit.Shape)+2), n.Lit.Shape...), 2, 3)
	cells := append(append(make([]api.Cell, 0, len(n.Lit.Cells)+2), n.Lit.Cells...), api.Cell{N: 77}, api.Cell{Kind: api.CChar, N: 78})
	n.Lit = api.Arr{Shape: shape[:len(n.Lit.Shape)], Cells: cells[:len(n.Lit.Cells)]}
	return n
}
