package apl_test

import (
	"fmt"
	"math"
	"runtime"
	"slices"
	"strings"
	"testing"

	"triglyph/api"
	"triglyph/apl"
	"triglyph/arr"
	"triglyph/spell"
)

// both is a program that counts from 1 and sets nothing, and what it is printed as.
func both(n api.Node, want string) pair { return pair{line("", 1, n), want} }

// TestPrint: 17.3, what stands ahead of the expression.
func TestPrint(t *testing.T) {
	five := dy(verb("+"), num(5), name("b"))
	pairs{
		{line("", 1, five), "5 + b"},
		{line("a", 1, five), "a ← 5 + b"},
		{line("", 0, five), "⎕IO ← 0 ⋄ 5 + b"},
		{line("a", 0, five), "⎕IO ← 0 ⋄ a ← 5 + b"},
		{line("abcdefgh", 0, num(1)), "⎕IO ← 0 ⋄ abcdefgh ← 1"},
		{line("b12", 1, name("b12")), "b12 ← b12"},
		{line("w", 1, text("")), "w ← ''"},
		{line("a", 0, mo(power(2, verb("+")), num(-1))), "⎕IO ← 0 ⋄ a ← ( +⍣2 ) ¯1"},
	}.check(t)
}

// TestPrintExpressions: 17.3, the expression's text by APL's grammar.
func TestPrintExpressions(t *testing.T) {
	a, b, plus := name("a"), name("b"), verb("+")
	slash := adverb("/", plus)
	pairs{
		both(num(5), "5"),
		both(num(-5), "¯5"),
		both(num(math.MinInt64), "¯9223372036854775808"),
		both(nums(1, -2, 3), "1 ¯2 3"),
		both(nums(), "''"),
		both(text(""), "''"),
		both(text("a"), "'a'"),
		both(text("it's"), "'it''s'"),
		both(text(`"⍵\`), `'"⍵\'`),
		both(a, "a"),
		both(mo(verb("⍳"), num(3)), "⍳ 3"),
		both(dy(plus, num(1), mo(verb("⍳"), num(3))), "1 + ⍳ 3"),
		both(dy(plus, dy(plus, a, b), a), "( a + b ) + a"),
		both(dy(plus, mo(plus, a), a), "( + a ) + a"),
		both(mo(slash, a), "+/ a"),
		both(mo(adverb("⍨", slash), a), "+/⍨ a"),
		both(dy(verb("/"), a, b), "a / b"),
		both(dy(verb("⌿"), a, b), "a ⌿ b"),
		both(dy(adverb("⍨", verb("/")), a, b), "a /⍨ b"),
		both(dy(adverb("/", verb("/")), a, b), "a // b"),
		both(dy(power(2, verb("⌿")), a, b), "a ( ⌿⍣2 ) b"),
		both(dy(outer(plus), a, b), "a ∘. + b"),
		both(mo(outer(plus), a), "∘. + a"),
		both(dy(outer(adverb("⍨", plus)), a, b), "a ∘. ( +⍨ ) b"),
		both(dy(outer(outer(plus)), a, b), "a ∘. ( ∘. + ) b"),
		both(dy(adverb("⍨", outer(plus)), a, b), "a ∘. +⍨ b"),
		both(mo(power(3, lam1(dy(verb("×"), right(), num(2)))), num(1)), "( { ⍵ × 2 }⍣3 ) 1"),
		both(mo(adverb("/", power(4096, plus)), a), "+⍣4096/ a"),
		both(mo(lam1(num(1)), a), "{ 1 } a"),
		both(dy(lam2(dy(plus, left(), right())), a, b), "a { ⍺ + ⍵ } b"),
		both(mo(lam1(dy(plus, right(), mo(lam1(right()), right()))), a), "{ ⍵ + { ⍵ } ⍵ } a"),
		both(index(a, num(1)), "a [ 1 ]"),
		both(index(index(nums(5, 6), a), dy(plus, a, b)), "5 6 [ a ] [ a + b ]"),
		both(index(mo(plus, a), b), "( + a ) [ b ]"),
	}.check(t)
	for _, s := range wanted().Verbs {
		pairs{both(mo(verb(s), a), s+" a"), both(dy(verb(s), a, b), "a "+s+" b"), both(mo(outer(verb(s)), a), "∘. "+s+" a")}.check(t)
	}
	for _, s := range wanted().Adverbs {
		pairs{both(mo(adverb(s, plus), a), "+"+s+" a"), both(dy(adverb(s, plus), a, b), "a +"+s+" b")}.check(t)
	}
}

// TestPrintHead: 17.3, a Set that is no name, and an Origin that is neither 0 nor 1.
func TestPrintHead(t *testing.T) {
	for _, set := range []string{
		"x", "y", "z", "A", "1", "1a", "ax", "a_", "abcdefghi", "aaaaaaaaaaaaaaaa", " ", "a ", " a", "a b", "a←b", "a ←", "←", "⍺", "⍵", "⎕IO", "⎕IO ← 0 ⋄ a",
		"\x00", "a\x00", "é", "\xff", "(a)", "a⍝", "⍝", "+", "'a'", "a'", strings.Repeat("a", 1<<20),
	} {
		for _, origin := range []int{0, 1} {
			pairs{{line(set, origin, num(1)), "error"}}.check(t)
		}
	}
	for _, origin := range []int{-1, 2, 3, 10, 256, 257, 1 << 32, 1<<32 + 1, math.MaxInt, math.MinInt} {
		pairs{{line("", origin, num(1)), "error"}, {line("a", origin, num(1)), "error"}, {line("x", origin, num(1)), "error"}}.check(t)
	}
	pairs{{api.Program{}, "error"}, {line("a", 1, api.Node{}), "error"}}.check(t)
}

// TestPrintUnwritable: 17.3, expressions that spell.Write refuses.
func TestPrintUnwritable(t *testing.T) {
	a, plus := name("a"), verb("+")
	for i, n := range []api.Node{
		{}, {Kind: 7}, {Kind: -1}, {Kind: 100}, plus, lam1(a), adverb("/", plus),
		of(api.NMo, plus), of(api.NMo, plus, a, a), of(api.NDy, plus, a), mo(a, a), mo(plus, plus), dy(plus, plus, a), dy(plus, a, plus), dy(a, a, a),
		index(a, plus), index(plus, a), of(api.NIndex, a), mo(lam1(plus), a), mo(of(api.NLam1), a), mo(adverb("/", a), a), mo(outer(a), a), mo(power(1, a), a),
		mo(power(-1, plus), a), dy(power(-1, plus), a, a), mo(power(math.MinInt, plus), a),
		{Kind: api.NVar, Name: "a", Kids: []api.Node{a}}, {Kind: api.NLit, Lit: arr.Atom(1), Kids: []api.Node{a}},
		nums(5), {Kind: api.NLit}, {Kind: api.NLit, Lit: api.Arr{Shape: []int{1, 2}, Cells: arr.Nums([]int64{1, 2}).Cells}}, text("a\x01"), text("\x7f"), text("a\n"),
		{Kind: api.NLit, Lit: api.Arr{Cells: []api.Cell{{Kind: api.CInt, N: 1}, {Kind: api.CInt, N: 2}}}},
		{Kind: api.NLit, Lit: api.Arr{Shape: []int{2}, Cells: []api.Cell{{Kind: api.CInt, N: 1}, {Kind: api.CChar, N: 97}}}},
		{Kind: api.NLit, Lit: api.Arr{Cells: []api.Cell{{Kind: api.CBox, Box: []api.Arr{arr.Atom(1)}}}}},
		{Kind: api.NLit, Lit: api.Arr{Cells: []api.Cell{{Kind: api.CChar, N: 0xd800}}}},
		mo(of(api.NRedF, plus), a), mo(of(api.NComm, plus), a),
	} {
		for _, p := range []api.Program{line("", 1, n), line("", 0, n), line("a", 1, n), line("b", 0, mo(plus, n))} {
			if got := printed(p); got != "error" {
				t.Errorf("%d: %s", i, short(got))
			}
		}
	}
}

// TestPrintOther: 17.3, expressions that can be written, but are read as others, or as none.
func TestPrintOther(t *testing.T) {
	a, b, plus, g := name("a"), name("b"), verb("+"), wanted()
	for i, n := range []api.Node{
		// A primitive's name that is no sign of a function.
		mo(verb("≡"), a), mo(verb("i."), a), mo(verb("a"), a), mo(verb("/"), a), mo(verb("⌿"), a), mo(verb("⍨"), a), mo(verb("⍣"), a), mo(verb("⋄"), a), mo(verb("∘."), a), mo(verb("←"), a),
		dy(verb("\\"), a, b), dy(verb("⍀"), a, b), dy(verb("⍨"), a, b), dy(verb("b"), a, b), dy(verb("⋄"), a, b), dy(verb("←"), a, b), dy(verb("∘."), a, b), dy(verb(")"), a, b),
		mo(verb("+ -"), a), mo(verb("+-"), a), mo(verb("+/"), a), mo(verb(" +"), a), mo(verb("+ "), a), mo(verb("(+)"), a), mo(verb("{⍵}"), a), mo(verb("⍝"), a), mo(verb("∘. +"), a), mo(verb("+⍣2"), a), mo(verb("1 +"), a),
		mo(verb("\xff"), a), mo(verb("$"), a), mo(outer(verb("/")), a), dy(outer(verb("/")), a, b), mo(adverb("/", verb("/")), a), dy(adverb("⍨", verb("⍨")), a, b),
		// A sign behind a function that is none, or more.
		mo(adverb("+", plus), a), mo(adverb("//", plus), a), mo(adverb(" /", plus), a), mo(adverb("/ ", plus), a), mo(adverb("~", plus), a), mo(adverb("⍣2", plus), a), mo(adverb("⋄", plus), a), mo(adverb("a", plus), b), mo(adverb("⍝", plus), b),
		dy(adverb("+", plus), a, b), mo(adverb(`"1`, plus), a),
		// A name that is a word of its own, or none.
		name("⍺"), name("⍵"), name("⎕IO"), name("'a'"), name("''"), name("5"), name("¯5"), name("1 2"), name("x"), name("a b"), name("abcdefghi"), name("(a)"), name("a←b"), name("a ← b"), name("a[b]"), name("a+b"), name("- a"), name("a ⍝"),
		name(" a"), name("a "), name("⍝"), name("←"), name("+"), name("\xff"), name("⎕IO ← 0 ⋄ a"), name(")"), name("{⍵}"),
		mo(plus, name("⍵")), mo(lam1(name("⍵")), a), mo(lam1(name("⍺")), a), mo(lam2(dy(plus, name("⍺"), name("⍵"))), a), dy(lam2(dy(plus, name("⍺"), right())), a, b),
		// A literal of numbers beside one another.
		mo(verb("1"), num(2)), mo(verb("1"), nums(2, 3)), dy(verb("1"), a, b), dy(verb("1"), num(2), num(3)), dy(plus, num(1), name("2 3")), index(num(1), name("2 ] [ 3")), mo(power(2, verb("1")), a),
		// An argument outside of a function's text, and a text that names others than its kind says.
		left(), right(), mo(plus, right()), dy(plus, left(), right()), index(a, right()),
		mo(lam1(left()), a), mo(lam1(dy(plus, left(), right())), a), mo(lam2(right()), a), mo(lam2(left()), a), mo(lam2(a), b), dy(lam1(left()), a, b),
		mo(lam1(mo(lam1(left()), right())), a), mo(lam2(dy(plus, right(), mo(lam2(dy(plus, left(), right())), right()))), a),
		// Trains are none of APL's.
		mo(of(api.NHook, plus, plus), a), mo(of(api.NFork, plus, plus, plus), a), dy(of(api.NHook, plus, plus), a, b), dy(of(api.NFork, plus, verb("-"), plus), a, b), mo(adverb("/", of(api.NHook, plus, plus)), a),
		// How often is too great.
		mo(power(4097, plus), a), mo(power(math.MaxInt, plus), a), dy(power(4097, plus), a, b), mo(adverb("/", power(5000, plus)), a),
	} {
		for j, p := range []api.Program{line("", 1, n), line("", 0, n), line("a", 1, n), line("b", 0, mo(plus, n)), line("b", 1, dy(plus, n, n))} {
			if _, e := spell.Write(g, p.Expr); e != api.OK {
				t.Errorf("%d, %d: can't be written", i, j)
			}
			if got := printed(p); got != "error" {
				t.Errorf("%d, %d: %s", i, j, short(got))
			}
		}
	}
}

// TestPrintNotNamed: 17.3, nodes with something in a field that reading leaves as it is; but where nodes begin plays no part.
func TestPrintNotNamed(t *testing.T) {
	for _, n := range kinds() {
		want := printed(line("a", 0, whole(n)))
		if want == "error" {
			t.Fatalf("%+v is the test's own", n)
		}
		for _, change := range []func(m *api.Node){
			func(m *api.Node) { m.Op++ },
			func(m *api.Node) { m.Op = -m.Op - 1 },
			func(m *api.Node) { m.Name += "a" },
			func(m *api.Node) { m.Lit = arr.Atom(7) },
			func(m *api.Node) { m.Lit = api.Arr{Shape: []int{0}} },
			func(m *api.Node) { m.Lit.Cells = append(slices.Clone(m.Lit.Cells), api.Cell{N: 1}) },
			func(m *api.Node) { m.Lit = arr.Text([]int64{97, 98}) },
			func(m *api.Node) { m.Lit = boxed() },
		} {
			m := n
			change(&m)
			if sayNode(m) == sayNode(n) {
				continue
			}
			got, fits := printed(line("a", 0, whole(m))), can(line("a", 0, whole(m)))
			if (got != "error") != fits || !fits && got != "error" || fits && got == want {
				t.Errorf("%s: %s", sayNode(m), got)
			}
		}
		for _, at := range []int{1, -1, 99, math.MaxInt, math.MinInt} {
			m := n
			m.At = at
			if got := printed(line("a", 0, whole(m))); got != want {
				t.Errorf("%s: %s; want %s", sayNode(m), got, want)
			}
		}
	}
}

// boxed is an atom that is a box about itself.
func boxed() api.Arr {
	a := api.Arr{Cells: []api.Cell{{Kind: api.CBox, Box: make([]api.Arr, 1)}}}
	a.Cells[0].Box[0] = a
	return a
}

// TestPrintText: 17.3, texts of MaxText bytes, and of one more, with what stands ahead.
func TestPrintText(t *testing.T) {
	for _, c := range []struct {
		set    string
		origin int
		ahead  string
	}{
		{"", 1, ""}, {"a", 1, "a ← "}, {"", 0, "⎕IO ← 0 ⋄ "}, {"abcdefgh", 0, "⎕IO ← 0 ⋄ abcdefgh ← "},
	} {
		most := api.MaxText - len(c.ahead)
		signs := strings.Repeat("s", most-2)
		list := strings.Repeat("1 ", (most-1)/2)
		numbers := slices.Repeat([]int64{1}, (most-1)/2)
		pairs{
			{line(c.set, c.origin, text(signs)), c.ahead + "'" + signs + "'"},
			{line(c.set, c.origin, text(signs+"s")), "error"},
			{line(c.set, c.origin, text(signs[2:]+"'")), c.ahead + "'" + signs[2:] + "'''"},
			{line(c.set, c.origin, text(signs[1:]+"'")), "error"},
			{line(c.set, c.origin, text(signs[3:]+"⍵")), c.ahead + "'" + signs[3:] + "⍵'"},
			{line(c.set, c.origin, text(signs[2:]+"⍵")), "error"},
			{line(c.set, c.origin, nums(numbers...)), c.ahead + list[:len(list)-1]},
			{line(c.set, c.origin, nums(append(slices.Clone(numbers), 10, 100)...)), "error"},
		}.check(t)
	}
	pairs{
		both(nums(slices.Repeat([]int64{5}, api.MaxText/2)...), strings.TrimSuffix(strings.Repeat("5 ", api.MaxText/2), " ")),
		both(nums(append(slices.Repeat([]int64{5}, api.MaxText/2-1), 55)...), strings.Repeat("5 ", api.MaxText/2-1)+"55"),
		both(nums(append(slices.Repeat([]int64{5}, api.MaxText/2-1), 555)...), "error"),
		both(nums(slices.Repeat([]int64{5}, api.MaxText/2+1)...), "error"),
		both(nums(slices.Repeat([]int64{5}, api.MaxCells)...), "error"),
		both(text(strings.Repeat("'", api.MaxText/2-1)), strings.Repeat("'", api.MaxText)),
		both(text(strings.Repeat("'", api.MaxText/2)), "error"),
	}.check(t)
}

// TestPrintDeep: 17.3, expressions that lie as deep as they may, and deeper: brackets that are written count.
func TestPrintDeep(t *testing.T) {
	a, plus := name("a"), verb("+")
	chain := func(many int, n api.Node) api.Node {
		for range many {
			n = mo(plus, n)
		}
		return n
	}
	pairs{
		both(chain(23, a), strings.Repeat("+ ", 23)+"a"),
		both(chain(24, a), "error"),
		both(chain(22, mo(power(2, plus), a)), "error"),
		both(chain(21, mo(power(2, plus), a)), strings.Repeat("+ ", 21)+"( +⍣2 ) a"),
		both(chain(22, mo(adverb("/", power(2, plus)), a)), strings.Repeat("+ ", 22)+"+⍣2/ a"),
		both(chain(21, dy(plus, dy(plus, a, a), a)), strings.Repeat("+ ", 21)+"( a + a ) + a"),
		both(chain(22, dy(plus, dy(plus, a, a), a)), "error"),
		both(chain(21, mo(lam1(mo(plus, right())), a)), "error"),
		both(chain(21, mo(lam1(right()), a)), strings.Repeat("+ ", 21)+"{ ⍵ } a"),
		both(chain(22, mo(lam1(right()), a)), "error"),
		both(chain(22, index(a, a)), strings.Repeat("+ ", 22)+"a [ a ]"),
		both(chain(23, index(a, a)), "error"),
		both(chain(1000, a), "error"),
		{line("a", 0, chain(23, a)), "⎕IO ← 0 ⋄ a ← " + strings.Repeat("+ ", 23) + "a"},
		{line("a", 0, chain(24, a)), "error"},
	}.check(t)
}

// TestPrintWords: 17.3, more words than may be, of nodes that are few enough; and more nodes than may be, of words that are few enough.
func TestPrintWords(t *testing.T) {
	minus, a := verb("-"), name("a")
	indexed := func(many int) api.Node {
		n := a
		for range many {
			n = index(n, a)
		}
		return n
	}
	const brackets = " [ a ]"
	words := func(p api.Program) int {
		s, _ := spell.Write(wanted(), p.Expr)
		many := len(strings.Fields(s))
		if p.Set != "" {
			many += 2
		}
		if p.Origin == 0 {
			many += 4
		}
		return many
	}
	for _, c := range []pair{
		{line("", 1, mo(minus, indexed(682))), "- a" + strings.Repeat(brackets, 682)},
		{line("", 1, mo(minus, mo(minus, indexed(682)))), "error"},
		{line("", 1, indexed(683)), "error"},
		{line("a", 1, mo(minus, mo(minus, indexed(681)))), "a ← - - a" + strings.Repeat(brackets, 681)},
		{line("a", 1, mo(minus, mo(minus, mo(minus, indexed(681))))), "error"},
		{line("", 0, indexed(681)), "⎕IO ← 0 ⋄ a" + strings.Repeat(brackets, 681)},
		{line("", 0, mo(minus, indexed(681))), "error"},
		{line("a", 0, mo(minus, indexed(680))), "⎕IO ← 0 ⋄ a ← - a" + strings.Repeat(brackets, 680)},
		{line("a", 0, mo(minus, mo(minus, indexed(680)))), "error"},
	} {
		if many := words(c.p); (many > api.MaxTokens) != (c.want == "error") || many < api.MaxTokens {
			t.Errorf("the test's own program: %d words", many)
		}
		pairs{c}.check(t)
	}
	f := verb("-")
	for range api.MaxTokens - 3 {
		f = adverb("/", f)
	}
	pairs{
		both(mo(f, a), "-"+strings.Repeat("/", api.MaxTokens-3)+" a"),
		both(mo(adverb("/", f), a), "error"),
		{line("a", 1, mo(f.Kids[0], a)), "a ← -" + strings.Repeat("/", api.MaxTokens-4) + " a"},
		{line("a", 1, mo(f, a)), "error"},
	}.check(t)
	p, e := apl.Parse("-" + strings.Repeat("/", api.MaxTokens-2) + "a")
	if e != (api.Fault{}) {
		t.Fatal(e)
	}
	pairs{{p, "error"}}.check(t)
}

// TestPrintShared: P1, nodes that share parts, names and literals, so that their text would be far too long; and such as are parts of themselves.
func TestPrintShared(t *testing.T) {
	most := nums(slices.Repeat([]int64{math.MinInt64}, api.MaxCells)...)
	long := name(strings.Repeat("a", 1<<24))
	for i, leaf := range []api.Node{most, long, verb(long.Name), name("a"), verb("+"), {}, {Kind: api.NLit, Lit: api.Arr{Shape: []int{0}}}} {
		x, f := leaf, leaf
		for range 9 {
			x = dy(verb("+"), x, x)
			f = of(api.NFork, f, f, f)
		}
		for j, n := range []api.Node{x, dy(verb("+"), x, x), index(x, x), mo(f, name("a")), dy(f, x, x), mo(lam1(x), x)} {
			for range 50 {
				n = dy(verb("-"), n, n)
			}
			for _, p := range []api.Program{line("", 1, n), line("a", 0, n)} {
				if got := printed(p); got != "error" {
					t.Errorf("%d, %d: %s", i, j, short(got))
				}
			}
		}
	}
	for _, n := range kinds() {
		for i := range n.Kids {
			ring := n
			ring.Kids = slices.Clone(n.Kids)
			ring.Kids[i] = ring
			pairs{{line("a", 1, ring), "error"}, {line("", 0, whole(ring)), "error"}}.check(t)
		}
	}
	wide := api.Node{Kind: api.NMo, Kids: make([]api.Node, 1<<20)}
	deep := name("a")
	for range 1 << 16 {
		deep = mo(verb("+"), deep)
	}
	pairs{both(wide, "error"), both(deep, "error"), both(mo(verb("+"), long), "error")}.check(t)
}

// TestPrintSparing: P1, few enough nodes that share a long name or a great literal: what is no text by far takes no memory.
func TestPrintSparing(t *testing.T) {
	long := strings.Repeat("a", 1<<20)
	most := nums(slices.Repeat([]int64{math.MinInt64}, api.MaxCells)...)
	for i, leaf := range []api.Node{name(long), most, mo(verb(long), name("a")), mo(adverb(long, verb("+")), name("a"))} {
		n := leaf
		for range 8 {
			n = dy(verb("+"), n, n)
		}
		if many := count(n); many > api.MaxTokens {
			t.Fatalf("the test's own program: %d nodes", many)
		}
		var was, is runtime.MemStats
		runtime.ReadMemStats(&was)
		got := printed(line("a", 0, n))
		runtime.ReadMemStats(&is)
		if used := is.TotalAlloc - was.TotalAlloc; got != "error" || used > 1<<22 {
			t.Errorf("%d: %s, with %d bytes", i, short(got), used)
		}
	}
}

// kinds are all kinds of nodes that APL has, each with a node of it.
func kinds() []api.Node {
	a, plus := name("a"), verb("+")
	return []api.Node{
		num(1), nums(1, 2), text("bc"), text(""), a, mo(plus, a), dy(plus, a, a), index(a, a),
		plus, lam1(a), lam2(dy(plus, left(), right())), adverb("/", plus), outer(plus), power(2, plus),
	}
}

// whole is a program with a node in it.
func whole(n api.Node) api.Node {
	if n.Kind >= api.NPrim {
		return mo(n, num(1))
	}
	return mo(verb("+"), n)
}

// TestPrintNew: R3, what is handed in stays as it is, and what lies behind its lists plays no part. P7: printed twice it is the same.
func TestPrintNew(t *testing.T) {
	for _, n := range kinds() {
		p := line("b", 0, whole(n))
		want := printed(p)
		p.Expr = roomy(p.Expr)
		was := memory(p.Expr)
		for range 2 {
			if got := printed(p); got != want || memory(p.Expr) != was {
				t.Errorf("%s; want %s", got, want)
			}
		}
	}
}

// memory is all that is in the memory of a node, what lies behind its lists too.
func memory(n api.Node) string {
	var out strings.Builder
	fmt.Fprintf(&out, "%d %d %q %v %v %d(", n.Kind, n.Op, n.Name, n.Lit.Shape[:cap(n.Lit.Shape)], n.Lit.Cells[:cap(n.Lit.Cells)], n.At)
	for _, part := range n.Kids[:cap(n.Kids)] {
		out.WriteString(memory(part))
	}
	return out.String() + ")"
}

// roomy is a node whose lists have more memory than they are long.
func roomy(n api.Node) api.Node {
	kids := make([]api.Node, 0, len(n.Kids)+2)
	for _, part := range n.Kids {
		kids = append(kids, roomy(part))
	}
	n.Kids = append(kids, verb("behind"), name("behind"))[:len(n.Kids)]
	shape := append(append(make([]int, 0, len(n.Lit.Shape)+2), n.Lit.Shape...), 2, 3)
	cells := append(append(make([]api.Cell, 0, len(n.Lit.Cells)+2), n.Lit.Cells...), api.Cell{N: 77}, api.Cell{Kind: api.CChar, N: 78})
	n.Lit = api.Arr{Shape: shape[:len(n.Lit.Shape)], Cells: cells[:len(n.Lit.Cells)]}
	return n
}
