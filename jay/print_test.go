package jay_test

import (
	"fmt"
	"math"
	"runtime"
	"slices"
	"strings"
	"testing"

	"triglyph/api"
	"triglyph/arr"
	"triglyph/jay"
	"triglyph/spell"
)

// both is a program that sets nothing, and what it is printed as.
func both(n api.Node, want string) pair { return pair{line("", n), want} }

// counting is a program that says from where it counts.
func counting(set string, origin int, n api.Node) api.Program {
	return api.Program{Set: set, Origin: origin, Expr: n}
}

// TestPrint: 18.3, what stands ahead of the expression.
func TestPrint(t *testing.T) {
	five := dy(verb("+"), num(5), name("b"))
	pairs{
		{line("", five), "5 + b"},
		{line("a", five), "a =: 5 + b"},
		{line("abcdefgh", num(1)), "abcdefgh =: 1"},
		{line("b12", name("b12")), "b12 =: b12"},
		{line("w", text("")), "w =: ''"},
		{line("i", mo(verb("i."), num(3))), "i =: i. 3"},
		{line("a", mo(verb("="), num(3))), "a =: = 3"},
		{line("a", mo(power(2, verb("+")), num(-1))), "a =: ( +^:2 ) _1"},
		{line("a", mo(hook(verb("+"), verb("-")), num(1))), "a =: ( + - ) 1"},
	}.check(t)
	for c := 'a'; c <= 'w'; c++ {
		pairs{{line(string(c), name(string(c))), string(c) + " =: " + string(c)}}.check(t)
	}
}

// TestPrintExpressions: 18.3, the expression's text by J's grammar.
func TestPrintExpressions(t *testing.T) {
	a, b, plus, minus := name("a"), name("b"), verb("+"), verb("-")
	slash := adverb("/", plus)
	pairs{
		both(num(5), "5"),
		both(num(-5), "_5"),
		both(num(math.MaxInt64), "9223372036854775807"),
		both(num(math.MinInt64), "_9223372036854775808"),
		both(nums(1, -2, 3), "1 _2 3"),
		both(nums(), "''"),
		both(text(""), "''"),
		both(text("a"), "'a'"),
		both(text("it's"), "'it''s'"),
		both(text(`"⍵\`), `'"⍵\'`),
		both(text("NB. a =: 1"), "'NB. a =: 1'"),
		both(a, "a"),
		both(mo(verb("i."), num(3)), "i. 3"),
		both(dy(plus, num(1), mo(verb("i."), num(3))), "1 + i. 3"),
		both(dy(minus, num(1), num(-1)), "1 - _1"),
		both(mo(minus, num(1)), "- 1"),
		both(dy(plus, dy(plus, a, b), a), "( a + b ) + a"),
		both(dy(plus, mo(plus, a), a), "( + a ) + a"),
		both(mo(slash, a), "+/ a"),
		both(mo(adverb("~", slash), a), "+/~ a"),
		both(mo(adverb(`"1`, slash), num(1)), `+/"1 1`),
		both(mo(adverb("/", adverb(`"1`, plus)), a), `+"1/ a`),
		both(mo(adverb(`\`, verb(`\:`)), a), `\:\ a`),
		both(mo(adverb("/", verb("/:")), a), "/:/ a"),
		both(mo(adverb("~", verb("~.")), a), "~.~ a"),
		both(mo(power(3, lam1(dy(verb("*"), right(), num(2)))), num(1)), "( {{ y * 2 }}^:3 ) 1"),
		both(mo(adverb("/", power(4096, plus)), a), "+^:4096/ a"),
		both(mo(adverb(`"1`, power(2, plus)), num(1)), `+^:2"1 1`),
		both(dy(power(0, power(1, plus)), a, b), "a ( +^:1^:0 ) b"),
		both(mo(lam1(num(1)), a), "{{ 1 }} a"),
		both(mo(lam1(mo(verb("{"), right())), a), "{{ { y }} a"),
		both(mo(lam1(mo(verb("{."), right())), a), "{{ {. y }} a"),
		both(mo(lam1(mo(verb("}."), right())), a), "{{ }. y }} a"),
		both(dy(lam2(dy(plus, left(), right())), a, b), "a {{ x + y }} b"),
		both(mo(lam1(dy(plus, right(), mo(lam1(right()), right()))), a), "{{ y + {{ y }} y }} a"),
		both(mo(adverb("~", lam2(dy(plus, left(), right()))), a), "{{ x + y }}~ a"),
		// Trains.
		both(mo(hook(plus, minus), a), "( + - ) a"),
		both(dy(hook(plus, minus), a, b), "a ( + - ) b"),
		both(mo(fork(slash, verb("*"), verb("#")), nums(1, 2, 3)), "( +/ * # ) 1 2 3"),
		both(dy(fork(plus, minus, verb("*")), a, b), "a ( + - * ) b"),
		both(mo(hook(hook(plus, minus), verb("*")), a), "( ( + - ) * ) a"),
		both(mo(hook(plus, hook(minus, verb("*"))), a), "( + ( - * ) ) a"),
		both(mo(fork(hook(plus, minus), fork(plus, minus, plus), hook(minus, plus)), a), "( ( + - ) ( + - + ) ( - + ) ) a"),
		both(mo(adverb("/", hook(plus, minus)), a), "( + - )/ a"),
		both(mo(power(2, fork(plus, minus, plus)), a), "( ( + - + )^:2 ) a"),
		both(mo(hook(power(2, plus), power(3, minus)), a), "( +^:2 -^:3 ) a"),
		both(mo(hook(lam1(right()), adverb("~", lam2(dy(plus, left(), right())))), a), "( {{ y }} {{ x + y }}~ ) a"),
		both(mo(lam1(mo(hook(plus, minus), right())), a), "{{ ( + - ) y }} a"),
	}.check(t)
	for _, s := range wanted().Verbs {
		pairs{
			both(mo(verb(s), a), s+" a"), both(dy(verb(s), a, b), "a "+s+" b"), both(mo(verb(s), num(1)), s+" 1"), both(dy(verb(s), num(-1), num(1)), "_1 "+s+" 1"),
			both(mo(hook(verb(s), verb(s)), a), "( "+s+" "+s+" ) a"), both(mo(fork(verb(s), verb(s), verb(s)), a), "( "+s+" "+s+" "+s+" ) a"),
		}.check(t)
		for _, behind := range wanted().Adverbs {
			pairs{both(mo(adverb(behind, verb(s)), num(1)), s+behind+" 1"), both(mo(power(1, adverb(behind, verb(s))), a), "( "+s+behind+"^:1 ) a")}.check(t)
		}
	}
	for _, s := range wanted().Adverbs {
		pairs{both(mo(adverb(s, plus), a), "+"+s+" a"), both(dy(adverb(s, plus), a, b), "a +"+s+" b"), both(mo(adverb(s, adverb(s, plus)), num(1)), "+"+s+s+" 1")}.check(t)
	}
}

// TestPrintHead: 18.3, a Set that is no name, and an Origin that is not 0.
func TestPrintHead(t *testing.T) {
	for _, set := range []string{
		"x", "y", "z", "A", "1", "1a", "ax", "a_", "abcdefghi", "aaaaaaaaaaaaaaaa", " ", "a ", " a", "a b", "a=:b", "a =:", "a =: b", "=:", "i.", "e.", "a.", "a:", "NB.",
		"\x00", "a\x00", "é", "\xff", "(a)", "+", "'a'", "a'", strings.Repeat("a", 1<<20),
	} {
		pairs{{line(set, num(1)), "error"}, {counting(set, 1, num(1)), "error"}}.check(t)
	}
	for _, origin := range []int{1, -1, 2, 3, 10, 256, 1 << 32, math.MaxInt, math.MinInt} {
		pairs{{counting("", origin, num(1)), "error"}, {counting("a", origin, num(1)), "error"}, {counting("x", origin, num(1)), "error"}}.check(t)
	}
	pairs{{counting("", 0, num(1)), "1"}, {counting("a", 0, num(1)), "a =: 1"}, {api.Program{}, "error"}, {line("a", api.Node{}), "error"}}.check(t)
}

// TestPrintUnwritable: 18.3, expressions that spell.Write refuses.
func TestPrintUnwritable(t *testing.T) {
	a, plus := name("a"), verb("+")
	for i, n := range []api.Node{
		{}, {Kind: 7}, {Kind: -1}, {Kind: 100}, plus, lam1(a), adverb("/", plus), hook(plus, plus), fork(plus, plus, plus),
		of(api.NMo, plus), of(api.NMo, plus, a, a), of(api.NDy, plus, a), mo(a, a), mo(plus, plus), dy(plus, plus, a), dy(plus, a, plus), dy(a, a, a),
		mo(lam1(plus), a), mo(of(api.NLam1), a), mo(adverb("/", a), a), mo(power(1, a), a),
		mo(hook(plus, a), a), mo(hook(a, plus), a), mo(of(api.NHook, plus), a), mo(of(api.NHook, plus, plus, plus), a), mo(of(api.NHook), a),
		mo(fork(plus, a, plus), a), mo(fork(plus, plus, a), a), mo(of(api.NFork, plus, plus), a), mo(of(api.NFork, plus, plus, plus, plus), a), mo(of(api.NFork), a),
		mo(power(-1, plus), a), dy(power(-1, plus), a, a), mo(power(math.MinInt, plus), a), mo(hook(power(-1, plus), plus), a),
		of(api.NIndex, a), of(api.NIndex, a, plus), mo(of(api.NOuter, a), a),
		{Kind: api.NVar, Name: "a", Kids: []api.Node{a}}, {Kind: api.NLit, Lit: arr.Atom(1), Kids: []api.Node{a}},
		nums(5), {Kind: api.NLit}, {Kind: api.NLit, Lit: api.Arr{Shape: []int{1, 2}, Cells: arr.Nums([]int64{1, 2}).Cells}}, text("a\x01"), text("\x7f"), text("a\n"),
		{Kind: api.NLit, Lit: api.Arr{Cells: []api.Cell{{Kind: api.CInt, N: 1}, {Kind: api.CInt, N: 2}}}},
		{Kind: api.NLit, Lit: api.Arr{Shape: []int{2}, Cells: []api.Cell{{Kind: api.CInt, N: 1}, {Kind: api.CChar, N: 97}}}},
		{Kind: api.NLit, Lit: api.Arr{Cells: []api.Cell{{Kind: api.CBox, Box: []api.Arr{arr.Atom(1)}}}}},
		{Kind: api.NLit, Lit: api.Arr{Cells: []api.Cell{{Kind: api.CInt, N: 1, Box: []api.Arr{arr.Atom(1)}}}}},
		{Kind: api.NLit, Lit: api.Arr{Cells: []api.Cell{{Kind: api.CChar, N: 0xd800}}}},
		mo(of(api.NRedF, plus), a), mo(of(api.NComm, plus), a),
	} {
		for _, p := range []api.Program{line("", n), line("a", n), line("b", mo(plus, n)), counting("", 1, n)} {
			if got := printed(p); got != "error" {
				t.Errorf("%d: %s", i, short(got))
			}
		}
	}
}

// TestPrintOther: 18.3, expressions that can be written, but are read as others, or as none.
func TestPrintOther(t *testing.T) {
	a, b, plus, minus, g := name("a"), name("b"), verb("+"), verb("-"), wanted()
	for i, n := range []api.Node{
		// A primitive's name that is no sign of a function.
		mo(verb("×"), a), mo(verb("⍳"), a), mo(verb("a"), a), mo(verb("/"), a), mo(verb(`\`), a), mo(verb("~"), a), mo(verb(`"1`), a), mo(verb("^:"), a), mo(verb("=:"), a), mo(verb("i"), a), mo(verb("!"), a), mo(verb("^"), a),
		dy(verb("/"), a, b), dy(verb(`\`), a, b), dy(verb("~"), a, b), dy(verb(`"1`), a, b), dy(verb("b"), a, b), dy(verb("=:"), a, b), dy(verb("^:"), a, b), dy(verb(")"), a, b), dy(verb("}}"), a, b), dy(verb("i"), a, b), dy(verb("x"), a, b),
		mo(verb("+ -"), a), mo(verb("+-"), a), mo(verb("+/"), a), mo(verb(" +"), a), mo(verb("+ "), a), mo(verb("(+)"), a), mo(verb("(+ -)"), a), mo(verb("{{y}}"), a), mo(verb("{{ y }}"), a), mo(verb("NB."), a), mo(verb("+^:2"), a), mo(verb("1 +"), a), mo(verb("a =: -"), a),
		mo(verb("\xff"), a), mo(verb("&"), a), mo(adverb("/", verb("/")), a), dy(adverb("~", verb("~")), a, b), mo(hook(verb("/"), plus), a), mo(hook(plus, verb("/")), a), mo(fork(plus, verb("~"), minus), a), mo(power(2, verb("/")), a),
		mo(hook(verb("+ -"), verb("*")), a), mo(hook(plus, verb("- *")), a), mo(fork(plus, minus, verb("* %")), a), mo(hook(plus, verb("NB.")), a), mo(hook(plus, verb("1")), a), mo(hook(verb("a"), plus), a),
		// A sign behind a function that is none, or more.
		mo(adverb("+", plus), a), mo(adverb("//", plus), a), mo(adverb(" /", plus), a), mo(adverb("/ ", plus), a), mo(adverb("~.", plus), a), mo(adverb("~:", plus), a), mo(adverb("^:2", plus), a), mo(adverb("=:", plus), a), mo(adverb("a", plus), b), mo(adverb("NB.", plus), b),
		mo(adverb(":", plus), a), mo(adverb(".", verb("<")), a), mo(adverb(":", verb("<")), a), mo(adverb("⍨", plus), a), mo(adverb("⌿", plus), a), dy(adverb("+", plus), a, b), mo(adverb(`"2`, plus), a), mo(adverb(`"11`, plus), a), mo(adverb(`"`, plus), num(1)), mo(adverb("", verb("+")), a),
		// A name that is a word of its own, or none.
		name("x"), name("y"), name("z"), name("'a'"), name("''"), name("5"), name("_5"), name("1 2"), name("a b"), name("abcdefghi"), name("(a)"), name("a=:b"), name("a =: b"), name("a+b"), name("- a"), name("a NB."), name("i."), name("e."), name("ab."),
		name(" a"), name("a "), name("NB."), name("=:"), name("+"), name("\xff"), name(")"), name("{{y}}"), name("⍵"), name("A"),
		mo(plus, name("y")), mo(lam1(name("y")), a), mo(lam1(name("x")), a), mo(lam2(dy(plus, name("x"), name("y"))), a), dy(lam2(dy(plus, name("x"), right())), a, b),
		// A literal of numbers beside one another.
		mo(verb("1"), num(2)), mo(verb("1"), nums(2, 3)), dy(verb("1"), a, b), dy(verb("1"), num(2), num(3)), dy(plus, num(1), name("2 3")), mo(power(2, verb("1")), a), mo(adverb("~", verb("1")), num(2)), mo(adverb(`"1 1`, plus), num(2)), mo(adverb("^:1", plus), num(2)),
		// An argument outside of a function's text, and a text that names others than its kind says.
		left(), right(), mo(plus, right()), dy(plus, left(), right()), mo(hook(plus, lam2(right())), a),
		mo(lam1(left()), a), mo(lam1(dy(plus, left(), right())), a), mo(lam2(right()), a), mo(lam2(left()), a), mo(lam2(a), b), dy(lam1(left()), a, b),
		mo(lam1(mo(lam1(left()), right())), a), mo(lam2(dy(plus, right(), mo(lam2(dy(plus, left(), right())), right()))), a),
		// Square brackets, and a function for each with each, are none of J's.
		of(api.NIndex, a, b), of(api.NIndex, a, num(1)), mo(of(api.NOuter, plus), a), dy(of(api.NOuter, plus), a, b), dy(of(api.NOuter, adverb("/", plus)), a, b), mo(hook(plus, of(api.NOuter, plus)), a),
		// How often is too great.
		mo(power(4097, plus), a), mo(power(math.MaxInt, plus), a), dy(power(4097, plus), a, b), mo(adverb("/", power(5000, plus)), a), mo(hook(power(4097, plus), plus), a),
	} {
		for j, p := range []api.Program{line("", n), line("a", n), line("b", mo(plus, n)), line("b", dy(plus, n, n))} {
			if _, e := spell.Write(g, p.Expr); e != api.OK {
				t.Errorf("%d, %d: can't be written", i, j)
			}
			if got := printed(p); got != "error" {
				t.Errorf("%d, %d: %s", i, j, short(got))
			}
		}
	}
}

// TestPrintNotNamed: 18.3, nodes with something in a field that reading leaves as it is; but where nodes begin plays no part.
func TestPrintNotNamed(t *testing.T) {
	for _, n := range kinds() {
		want := printed(line("a", whole(n)))
		if want == "error" {
			t.Fatalf("%+v is the test's own", n)
		}
		for _, change := range []func(m *api.Node){
			func(m *api.Node) { m.Op++ },
			func(m *api.Node) { m.Op = -m.Op - 1 },
			func(m *api.Node) { m.Name += "a" },
			func(m *api.Node) { m.Lit = arr.Atom(7) },
			func(m *api.Node) { m.Lit = api.Arr{Shape: []int{0}} },
			func(m *api.Node) { m.Lit.Cells = append(slices.Clone(m.Lit.Cells), api.Cell{N: 1}) },
			func(m *api.Node) { m.Lit = arr.Text([]int64{97, 98}) },
			func(m *api.Node) { m.Lit = boxed() },
		} {
			m := n
			change(&m)
			if sayNode(m) == sayNode(n) {
				continue
			}
			got, fits := printed(line("a", whole(m))), can(line("a", whole(m)))
			if (got != "error") != fits || !fits && got != "error" || fits && got == want {
				t.Errorf("%s: %s", sayNode(m), got)
			}
		}
		for _, at := range []int{1, -1, 99, math.MaxInt, math.MinInt} {
			m := n
			m.At = at
			if got := printed(line("a", whole(m))); got != want {
				t.Errorf("%s: %s; want %s", sayNode(m), got, want)
			}
		}
	}
}

// boxed is an atom that is a box about itself.
func boxed() api.Arr {
	a := api.Arr{Cells: []api.Cell{{Kind: api.CBox, Box: make([]api.Arr, 1)}}}
	a.Cells[0].Box[0] = a
	return a
}

// TestPrintText: 18.3, texts of MaxText bytes, and of one more, with what stands ahead.
func TestPrintText(t *testing.T) {
	for _, c := range []struct{ set, ahead string }{{"", ""}, {"a", "a =: "}, {"b1", "b1 =: "}, {"abcdefgh", "abcdefgh =: "}} {
		most := api.MaxText - len(c.ahead)
		signs := strings.Repeat("s", most-2)
		list := strings.Repeat("1 ", (most-1)/2)
		numbers := slices.Repeat([]int64{1}, (most-1)/2)
		pairs{
			{line(c.set, text(signs)), c.ahead + "'" + signs + "'"},
			{line(c.set, text(signs+"s")), "error"},
			{line(c.set, text(signs[2:]+"'")), c.ahead + "'" + signs[2:] + "'''"},
			{line(c.set, text(signs[1:]+"'")), "error"},
			{line(c.set, text(signs[3:]+"⍵")), c.ahead + "'" + signs[3:] + "⍵'"},
			{line(c.set, text(signs[2:]+"⍵")), "error"},
			{line(c.set, nums(numbers...)), c.ahead + list[:len(list)-1]},
			{line(c.set, nums(append(slices.Clone(numbers), 10, 100)...)), "error"},
		}.check(t)
	}
	// Signs behind a function have no blank ahead: no text says more nodes with so few bytes.
	f, behind := verb("-"), strings.Repeat("/", api.MaxTokens-3)
	for range len(behind) {
		f = adverb("/", f)
	}
	most := strings.Repeat("s", api.MaxText-len(behind)-len("- ''"))
	pairs{both(mo(f, text(most)), "-"+behind+" '"+most+"'"), both(mo(f, text(most+"s")), "error")}.check(t)
	pairs{
		both(nums(slices.Repeat([]int64{5}, api.MaxText/2)...), strings.TrimSuffix(strings.Repeat("5 ", api.MaxText/2), " ")),
		both(nums(append(slices.Repeat([]int64{5}, api.MaxText/2-1), 55)...), strings.Repeat("5 ", api.MaxText/2-1)+"55"),
		both(nums(append(slices.Repeat([]int64{5}, api.MaxText/2-1), 555)...), "error"),
		both(nums(slices.Repeat([]int64{5}, api.MaxText/2+1)...), "error"),
		both(nums(slices.Repeat([]int64{5}, api.MaxCells)...), "error"),
		both(text(strings.Repeat("'", api.MaxText/2-1)), strings.Repeat("'", api.MaxText)),
		both(text(strings.Repeat("'", api.MaxText/2)), "error"),
	}.check(t)
}

// TestPrintDeep: 18.3, expressions that lie as deep as they may, and deeper: brackets that are written count.
func TestPrintDeep(t *testing.T) {
	a, plus := name("a"), verb("+")
	chain := func(many int, n api.Node) api.Node {
		for range many {
			n = mo(plus, n)
		}
		return n
	}
	hooks := func(many int) api.Node {
		f := plus
		for range many {
			f = hook(plus, f)
		}
		return f
	}
	written := func(many int) string { return strings.Repeat("( + ", many) + "+" + strings.Repeat(" )", many) }
	pairs{
		both(chain(23, a), strings.Repeat("+ ", 23)+"a"),
		both(chain(24, a), "error"),
		both(chain(22, mo(power(2, plus), a)), "error"),
		both(chain(21, mo(power(2, plus), a)), strings.Repeat("+ ", 21)+"( +^:2 ) a"),
		both(chain(22, mo(adverb("/", power(2, plus)), a)), strings.Repeat("+ ", 22)+"+^:2/ a"),
		both(chain(21, dy(plus, dy(plus, a, a), a)), strings.Repeat("+ ", 21)+"( a + a ) + a"),
		both(chain(22, dy(plus, dy(plus, a, a), a)), "error"),
		both(chain(21, mo(lam1(mo(plus, right())), a)), "error"),
		both(chain(21, mo(lam1(right()), a)), strings.Repeat("+ ", 21)+"{{ y }} a"),
		both(chain(22, mo(lam1(right()), a)), "error"),
		both(chain(21, mo(hooks(1), a)), strings.Repeat("+ ", 21)+"( + + ) a"),
		both(chain(22, mo(hooks(1), a)), "error"),
		both(chain(21, mo(hook(power(2, plus), plus), a)), strings.Repeat("+ ", 21)+"( +^:2 + ) a"),
		both(mo(hooks(22), a), written(22)+" a"),
		both(mo(hooks(23), a), "error"),
		both(mo(adverb("/", hooks(22)), a), written(22)+"/ a"),
		both(mo(power(2, hooks(21)), a), "( "+written(21)+"^:2 ) a"),
		both(mo(power(2, hooks(22)), a), "error"),
		both(mo(lam1(mo(hooks(20), right())), a), "{{ "+written(20)+" y }} a"),
		both(mo(lam1(mo(hooks(21), right())), a), "error"),
		both(chain(1000, a), "error"),
		both(mo(hooks(1000), a), "error"),
		{line("a", chain(23, a)), "a =: " + strings.Repeat("+ ", 23) + "a"},
		{line("a", chain(24, a)), "error"},
	}.check(t)
}

// TestPrintWords: 18.3, more words than may be, of nodes that are few enough; and more nodes than may be, of words that are few enough.
func TestPrintWords(t *testing.T) {
	minus, a := verb("-"), name("a")
	// trains is trains in one another, of so many functions that are none.
	var trains func(many int) api.Node
	trains = func(many int) api.Node {
		if many == 1 {
			return minus
		}
		return hook(trains(many/2), trains(many-many/2))
	}
	written := func(f api.Node) string {
		s, _ := spell.Write(wanted(), mo(f, a))
		return s
	}
	for _, c := range []pair{
		{line("", mo(trains(683), a)), written(trains(683))},
		{line("", mo(adverb("/", trains(683)), a)), "error"},
		{line("", mo(trains(684), a)), "error"},
		{line("", mo(minus, mo(trains(683), a))), "error"},
		{line("a", mo(adverb("/", trains(682)), a)), "a =: " + written(adverb("/", trains(682)))},
		{line("a", mo(adverb("/", adverb("/", trains(682))), a)), "error"},
		{line("a", mo(trains(683), a)), "error"},
	} {
		s, _ := spell.Write(wanted(), c.p.Expr)
		many := len(strings.Fields(strings.ReplaceAll(s, "/", " /")))
		if c.p.Set != "" {
			many += 2
		}
		if (many > api.MaxTokens) != (c.want == "error") || many < api.MaxTokens {
			t.Errorf("the test's own program: %d words", many)
		}
		pairs{c}.check(t)
	}
	f := minus
	for range api.MaxTokens - 3 {
		f = adverb("/", f)
	}
	pairs{
		both(mo(f, a), "-"+strings.Repeat("/", api.MaxTokens-3)+" a"),
		both(mo(adverb("/", f), a), "error"),
		{line("a", mo(f.Kids[0], a)), "a =: -" + strings.Repeat("/", api.MaxTokens-4) + " a"},
		{line("a", mo(f, a)), "error"},
	}.check(t)
	p, e := jay.Parse("-" + strings.Repeat("/", api.MaxTokens-2) + "a")
	if e != (api.Fault{}) {
		t.Fatal(e)
	}
	pairs{{p, "error"}}.check(t)
}

// TestPrintShared: P1, nodes that share parts, names and literals, so that their text would be far too long; and such as are parts of themselves.
func TestPrintShared(t *testing.T) {
	most := nums(slices.Repeat([]int64{math.MinInt64}, api.MaxCells)...)
	long := name(strings.Repeat("a", 1<<24))
	for i, leaf := range []api.Node{most, long, verb(long.Name), name("a"), verb("+"), {}, {Kind: api.NLit, Lit: api.Arr{Shape: []int{0}}}} {
		x, f := leaf, leaf
		for range 9 {
			x = dy(verb("+"), x, x)
			f = fork(f, f, f)
		}
		for j, n := range []api.Node{x, dy(verb("+"), x, x), mo(hook(f, f), x), mo(f, name("a")), dy(f, x, x), mo(lam1(x), x)} {
			for range 50 {
				n = dy(verb("-"), n, n)
			}
			for _, p := range []api.Program{line("", n), line("a", n)} {
				if got := printed(p); got != "error" {
					t.Errorf("%d, %d: %s", i, j, short(got))
				}
			}
		}
	}
	for _, n := range kinds() {
		for i := range n.Kids {
			ring := n
			ring.Kids = slices.Clone(n.Kids)
			ring.Kids[i] = ring
			pairs{{line("a", ring), "error"}, {line("", whole(ring)), "error"}}.check(t)
		}
	}
	wide := api.Node{Kind: api.NMo, Kids: make([]api.Node, 1<<20)}
	deep := name("a")
	for range 1 << 16 {
		deep = mo(verb("+"), deep)
	}
	pairs{both(wide, "error"), both(deep, "error"), both(mo(verb("+"), long), "error")}.check(t)
}

// TestPrintSparing: P1, few enough nodes that share a long name or a great literal: what is no text by far takes no memory.
func TestPrintSparing(t *testing.T) {
	long := strings.Repeat("a", 1<<20)
	most := nums(slices.Repeat([]int64{math.MinInt64}, api.MaxCells)...)
	for i, leaf := range []api.Node{name(long), most, mo(verb(long), name("a")), mo(adverb(long, verb("+")), name("a"))} {
		n := leaf
		for range 8 {
			n = dy(verb("+"), n, n)
		}
		if many := count(n); many > api.MaxTokens {
			t.Fatalf("the test's own program: %d nodes", many)
		}
		var was, is runtime.MemStats
		runtime.ReadMemStats(&was)
		got := printed(line("a", n))
		runtime.ReadMemStats(&is)
		if used := is.TotalAlloc - was.TotalAlloc; got != "error" || used > 1<<22 {
			t.Errorf("%d: %s, with %d bytes", i, short(got), used)
		}
	}
}

// kinds are all kinds of nodes that J has, each with a node of it.
func kinds() []api.Node {
	a, plus := name("a"), verb("+")
	return []api.Node{
		num(1), nums(1, 2), text("bc"), text(""), a, mo(plus, a), dy(plus, a, a),
		plus, lam1(a), lam2(dy(plus, left(), right())), adverb("/", plus), power(2, plus), hook(plus, plus), fork(plus, plus, plus),
	}
}

// whole is a program with a node in it.
func whole(n api.Node) api.Node {
	if n.Kind >= api.NPrim {
		return mo(n, num(1))
	}
	return mo(verb("+"), n)
}

// TestPrintNew: R3, what is handed in stays as it is, and what lies behind its lists plays no part. P7: printed twice it is the same.
func TestPrintNew(t *testing.T) {
	for _, n := range kinds() {
		p := line("b", whole(n))
		want := printed(p)
		p.Expr = roomy(p.Expr)
		was := memory(p.Expr)
		for range 2 {
			if got := printed(p); got != want || memory(p.Expr) != was {
				t.Errorf("%s; want %s", got, want)
			}
		}
	}
}

// memory is all that is in the memory of a node, what lies behind its lists too.
func memory(n api.Node) string {
	var out strings.Builder
	fmt.Fprintf(&out, "%d %d %q %v %v %d(", n.Kind, n.Op, n.Name, n.Lit.Shape[:cap(n.Lit.Shape)], n.Lit.Cells[:cap(n.Lit.Cells)], n.At)
	for _, part := range n.Kids[:cap(n.Kids)] {
		out.WriteString(memory(part))
	}
	return out.String() + ")"
}

// roomy is a node whose lists have more memory than they are long.
func roomy(n api.Node) api.Node {
	kids := make([]api.Node, 0, len(n.Kids)+2)
	for _, part := range n.Kids {
		kids = append(kids, roomy(part))
	}
	n.Kids = append(kids, verb("behind"), name("behind"))[:len(n.Kids)]
	shape := append(append(make([]int, 0, len(n.Lit.Shape)+2), n.Lit.Shape...), 2, 3)
	cells := append(append(make([]api.Cell, 0, len(n.Lit.Cells)+2), n.Lit.Cells...), api.Cell{N: 77}, api.Cell{Kind: api.CChar, N: 78})
	n.Lit = api.Arr{Shape: shape[:len(n.Lit.Shape)], Cells: cells[:len(n.Lit.Cells)]}
	return n
}
