package core_test

import (
	"math"
	"strconv"
	"strings"
	"testing"

	"triglyph/api"
	"triglyph/arr"
	"triglyph/core"
)

// programCase is a program, and whether it may be.
type programCase struct {
	what string
	n    api.Node
	may  bool
}

// expectCheck holds what Check answers against what is asked for.
func expectCheck(t *testing.T, what string, n api.Node, may bool) {
	t.Helper()
	want := api.ErrArg
	if may {
		want = api.OK
	}
	for range 2 {
		if e := core.Check(n); e != want {
			t.Errorf("%s: %v; want %v", what, e, want)
		}
	}
}

func expectCases(t *testing.T, cases []programCase) {
	t.Helper()
	for _, c := range cases {
		expectCheck(t, c.what, c.n, c.may)
	}
}

// expectFunction: whether a node is a function of one, and one of two.
func expectFunction(t *testing.T, what string, f api.Node, one, two bool) {
	t.Helper()
	expectCheck(t, what+", of one", asOne(f), one)
	expectCheck(t, what+", of two", asTwo(f), two)
	expectCheck(t, what+", by itself", f, false)
	expectCheck(t, what+", as an argument", mo(prim(api.Neg), f), false)
}

// 10.3: expressions.
func TestExpressions(t *testing.T) {
	expectCases(t, []programCase{
		{"a number", lit(5), true},
		{"a list", value(nums(1, 2, 3)), true},
		{"a name", name("a"), true},
		{"Neg", mo(prim(api.Neg), lit(5)), true},
		{"Add", dy(prim(api.Add), lit(1), name("ab1")), true},
		{"a call of a call", mo(prim(api.Iota), mo(prim(api.Tally), name("a"))), true},
		{"calls on both sides", dy(prim(api.Take), mo(prim(api.Neg), lit(1)), dy(prim(api.CatF), lit(1), lit(2))), true},
		{"no node", api.Node{}, false},
		{"a function of one with two arguments", dy(prim(api.Neg), lit(1), lit(2)), false},
		{"a function of two with one argument", mo(prim(api.Add), lit(1)), false},
		{"an argument in a function's place", mo(lit(1), lit(2)), false},
		{"a call in a function's place", mo(mo(prim(api.Neg), lit(1)), lit(2)), false},
		{"a name in a function's place", dy(name("a"), lit(1), lit(2)), false},
		{"a function in the argument's place", mo(prim(api.Neg), prim(api.Neg)), false},
		{"a function in the left argument's place", dy(prim(api.Add), prim(api.Neg), lit(1)), false},
		{"a function in the right argument's place", dy(prim(api.Add), lit(1), prim(api.Neg)), false},
		{"the function behind", mo(lit(1), prim(api.Neg)), false},
		{"the function between", dy(lit(1), prim(api.Add), lit(2)), false},
	})
}

// 10.3: NVar with a name, and with none.
func TestNames(t *testing.T) {
	for _, s := range []string{"a", "w", "a1", "abcdefgh", "q0123456"} {
		expectCheck(t, strconv.Quote(s), name(s), true)
		expectCheck(t, strconv.Quote(s), dy(prim(api.Add), name(s), name(s)), true)
		expectCheck(t, strconv.Quote(s), inText(name(s)), true)
	}
	for _, s := range []string{"", "x", "A", "1", "1a", "ax", "abcdefghi", "a b", "⍵", "a\xff"} {
		expectCheck(t, strconv.Quote(s), name(s), false)
		expectCheck(t, strconv.Quote(s), dy(prim(api.Add), name("a"), name(s)), false)
		expectCheck(t, strconv.Quote(s), dy(prim(api.Add), name(s), name("a")), false)
		expectCheck(t, strconv.Quote(s), inText(name(s)), false)
	}
}

// 10.3: NLit with a literal, and with an array that is none.
func TestLiterals(t *testing.T) {
	for _, c := range literalCases() {
		expectCheck(t, c.what, value(c.a), c.want)
		expectCheck(t, c.what, mo(prim(api.Neg), value(c.a)), c.want)
		expectCheck(t, c.what, dy(prim(api.Add), value(c.a), lit(1)), c.want)
		expectCheck(t, c.what, inText(value(c.a)), c.want)
	}
}

// 10.3: each number as NPrim's Op, wherever a primitive may stand.
func TestPrimitives(t *testing.T) {
	for _, op := range anyOps() {
		what := "NPrim " + strconv.Itoa(op)
		one := 1 <= op && op <= 19
		cellwise := 21 <= op && op <= 32
		two := cellwise || 41 <= op && op <= 54
		turned := two && op != 52 && op != 53
		expectFunction(t, what, prim(op), one, two)
		expectFunction(t, "NComm of "+what, comm(prim(op)), turned, turned)
		expectFunction(t, "NComm of NComm of "+what, comm(comm(prim(op))), false, false)
		expectFunction(t, "NOuter of "+what, outer(prim(op)), false, cellwise)
		expectFunction(t, "NOuter of NComm of "+what, outer(comm(prim(op))), false, cellwise)
		expectFunction(t, "NOuter of NComm of NComm of "+what, outer(comm(comm(prim(op)))), false, false)
		expectFunction(t, "NComm of NOuter of "+what, comm(outer(prim(op))), false, false)
		expectFunction(t, "NPow of "+what, power(2, prim(op)), false, false)
		expectFunction(t, "NLam1 of "+what, lam1(prim(op)), false, false)
		for _, kind := range folds() {
			f := "fold " + strconv.Itoa(kind) + " of "
			expectFunction(t, f+what, node(kind, prim(op)), cellwise, false)
			expectFunction(t, f+"NComm of "+what, node(kind, comm(prim(op))), cellwise, false)
			expectFunction(t, f+"NComm of NComm of "+what, node(kind, comm(comm(prim(op)))), false, false)
			expectFunction(t, f+"NOuter of "+what, node(kind, outer(prim(op))), false, false)
			expectFunction(t, "NComm of "+f+what, comm(node(kind, prim(op))), false, false)
			expectFunction(t, "NOuter of "+f+what, outer(node(kind, prim(op))), false, false)
		}
	}
}

// 10.3: functions by a text, wherever one may stand.
func TestTextsAsFunctions(t *testing.T) {
	expectFunction(t, "NLam1", twice(), true, false)
	expectFunction(t, "NLam1 that names nothing", lam1(lit(1)), true, false)
	expectFunction(t, "NLam2", both(), false, true)
	expectFunction(t, "NComm of NLam1", comm(twice()), false, false)
	expectFunction(t, "NComm of NLam2", comm(both()), true, true)
	expectFunction(t, "NComm of NComm of NLam2", comm(comm(both())), false, false)
	expectFunction(t, "NOuter of NLam1", outer(twice()), false, false)
	expectFunction(t, "NOuter of NLam2", outer(both()), false, false)
	expectFunction(t, "NOuter of NComm of NLam2", outer(comm(both())), false, false)
	expectFunction(t, "NPow of NLam1", power(3, twice()), true, false)
	expectFunction(t, "NPow of NLam2", power(3, both()), false, false)
	expectFunction(t, "NPow of NComm of NLam2", power(3, comm(both())), false, false)
	expectFunction(t, "NPow of NPow", power(3, power(3, twice())), false, false)
	expectFunction(t, "NPow of an expression", power(3, lit(1)), false, false)
	expectFunction(t, "NComm of NPow", comm(power(3, twice())), false, false)
	expectFunction(t, "NComm of NPow as often as Add's number", comm(power(api.Add, twice())), false, false)
	expectFunction(t, "NOuter of NPow as often as Add's number", outer(power(api.Add, twice())), false, false)
	expectFunction(t, "NComm of an expression", comm(lit(1)), false, false)
	for _, kind := range folds() {
		what := "fold " + strconv.Itoa(kind)
		expectFunction(t, what+" of NLam1", node(kind, twice()), false, false)
		expectFunction(t, what+" of NLam2", node(kind, both()), false, false)
		expectFunction(t, what+" of NComm of NLam2", node(kind, comm(both())), false, false)
		expectFunction(t, what+" of NPow", node(kind, power(1, twice())), false, false)
		expectFunction(t, what+" of NPow as often as Add's number", node(kind, power(api.Add, twice())), false, false)
		expectFunction(t, what+" of an expression", node(kind, lit(1)), false, false)
		expectFunction(t, "NPow of "+what, power(1, node(kind, prim(api.Add))), false, false)
	}
}

// 10.3: how often NPow does.
func TestPower(t *testing.T) {
	for _, often := range []int{least, -1 << 32, -api.MaxPower, -2, -1} {
		expectFunction(t, "NPow "+strconv.Itoa(often), power(often, twice()), false, false)
	}
	for _, often := range []int{0, 1, 2, 100, api.MaxPower - 1, 1 << 12} {
		expectFunction(t, "NPow "+strconv.Itoa(often), power(often, twice()), true, false)
	}
	for _, often := range []int{1<<12 + 1, 1 << 13, 1 << 32, 1<<32 + 1, most} {
		expectFunction(t, "NPow "+strconv.Itoa(often), power(often, twice()), false, false)
	}
}

// 10.3: NLeft and NRight, outside functions and in them.
func TestArguments(t *testing.T) {
	add := prim(api.Add)
	expectCases(t, []programCase{
		{"NLeft alone", left(), false},
		{"NRight alone", right(), false},
		{"NLeft of a call", mo(prim(api.Neg), left()), false},
		{"NRight of a call", mo(prim(api.Neg), right()), false},
		{"both of a call", dy(add, left(), right()), false},
		{"NRight beside a function's text", dy(add, asOne(twice()), right()), false},
		{"NRight ahead of a function's text", dy(add, right(), asOne(twice())), false},
		{"NRight as what a function's text is done with", mo(twice(), right()), false},
		{"NLeft as what a function's text is done with", dy(both(), left(), lit(1)), false},
		{"NLam1 of NRight", asOne(lam1(right())), true},
		{"NLam1 of NRight, twice", asOne(twice()), true},
		{"NLam1 of neither", asOne(lam1(name("a"))), true},
		{"NLam1 of NLeft", asOne(lam1(left())), false},
		{"NLam1 of both", asOne(lam1(dy(add, left(), right()))), false},
		{"NLam1 of both, NRight ahead", asOne(lam1(dy(add, right(), left()))), false},
		{"NLam1 of NLeft, deep down", asOne(lam1(dy(add, right(), mo(prim(api.Neg), left())))), false},
		{"NLam2 of both", asTwo(both()), true},
		{"NLam2 of both, exchanged", asTwo(lam2(dy(add, right(), left()))), true},
		{"NLam2 of both, often", asTwo(lam2(dy(add, dy(add, right(), left()), dy(add, left(), right())))), true},
		{"NLam2 of both, deep down", asTwo(lam2(dy(add, mo(prim(api.Neg), left()), mo(prim(api.Not), right())))), true},
		{"NLam2 of NLeft", asTwo(lam2(left())), false},
		{"NLam2 of NLeft, twice", asTwo(lam2(dy(add, left(), left()))), false},
		{"NLam2 of NRight", asTwo(lam2(right())), false},
		{"NLam2 of NRight, twice", asTwo(lam2(dy(add, right(), right()))), false},
		{"NLam2 of neither", asTwo(lam2(lit(1))), false},
		{"a text that is a function", asOne(lam1(prim(api.Neg))), false},
		{"a text that is no node", asOne(lam1(api.Node{})), false},
	})
}

// 10.3: what a text within a text names is the inner function's alone.
func TestArgumentsWithin(t *testing.T) {
	add := prim(api.Add)
	// The inner functions name what is theirs; the arguments that they are done with are the outer one's.
	one := func(x api.Node) api.Node { return mo(twice(), x) }
	two := func(x, y api.Node) api.Node { return dy(both(), x, y) }
	expectCases(t, []programCase{
		{"NLam1: NLam1 within", asOne(lam1(one(right()))), true},
		{"NLam1: NLam1 within, of nothing of the outer one's", asOne(lam1(one(lit(1)))), true},
		{"NLam1: NLam1 within, of NLeft", asOne(lam1(one(left()))), false},
		{"NLam1: NLam2 within", asOne(lam1(two(right(), right()))), true},
		{"NLam1: NLam2 within, of nothing of the outer one's", asOne(lam1(two(lit(1), lit(2)))), true},
		{"NLam1: NLam2 within, of NLeft", asOne(lam1(two(left(), right()))), false},
		{"NLam2: NLam2 within", asTwo(lam2(two(left(), right()))), true},
		{"NLam2: NLam2 within, exchanged", asTwo(lam2(two(right(), left()))), true},
		{"NLam2: NLam2 within, of nothing of the outer one's", asTwo(lam2(two(lit(1), lit(2)))), false},
		{"NLam2: NLam2 within, of NLeft", asTwo(lam2(two(left(), left()))), false},
		{"NLam2: NLam2 within, of NRight", asTwo(lam2(two(right(), lit(1)))), false},
		{"NLam2: NLam1 within, of NLeft", asTwo(lam2(one(left()))), false},
		{"NLam2: NLam1 within, of NLeft, NRight beside", asTwo(lam2(dy(add, right(), one(left())))), true},
		{"NLam2: NLam1 within, NLeft beside, ahead", asTwo(lam2(dy(add, left(), one(lit(1))))), false},
		{"NLam2: NLam2 within, turned, of NRight", asTwo(lam2(mo(comm(both()), right()))), false},
		{"NLam2: NLam2 within, turned, of both", asTwo(lam2(dy(comm(both()), left(), right()))), true},
		{"NLam2: NPow within, of NLeft", asTwo(lam2(mo(power(2, twice()), left()))), false},
		{"NLam1: NPow within, of NRight", asOne(lam1(mo(power(2, twice()), right()))), true},
		{"NLam1: NLam2 within that lacks NLeft", asOne(lam1(dy(lam2(right()), right(), right()))), false},
		{"NLam2: NLam1 within that names NLeft", asTwo(lam2(dy(add, mo(lam1(left()), right()), left()))), false},
		{"NLam2: NLam2 within that lacks NRight", asTwo(lam2(dy(lam2(left()), left(), right()))), false},
		{"NPow of a text that names NLeft", asOne(power(1, lam1(left()))), false},
		{"NPow of a text that names nothing", asOne(power(1, lam1(lit(1)))), true},
		{"NComm of a text that lacks NLeft", asTwo(comm(lam2(right()))), false},
		{"three deep", asOne(lam1(one(mo(lam1(two(right(), right())), right())))), true},
		{"three deep, the last lacks one", asOne(lam1(one(mo(lam1(dy(lam2(right()), right(), right())), right())))), false},
		{"NRight behind a text within", asTwo(lam2(dy(add, two(lit(1), left()), right()))), true},
		{"NRight outside, behind a text", dy(add, asOne(twice()), mo(prim(api.Neg), right())), false},
	})
}

// rightForms are one program for each kind of node, with that node first or as the first one's first part.
func rightForms() map[int]api.Node {
	out := map[int]api.Node{
		api.NLit:   lit(5),
		api.NVar:   name("a"),
		api.NLeft:  asTwo(both()),
		api.NRight: inText(right()),
		api.NMo:    mo(prim(api.Neg), lit(5)),
		api.NDy:    dy(prim(api.Add), lit(5), lit(6)),
		api.NPrim:  asOne(prim(api.Neg)),
		api.NLam1:  asOne(twice()),
		api.NLam2:  asTwo(both()),
		api.NOuter: asTwo(outer(prim(api.Add))),
		api.NPow:   asOne(power(2, twice())),
		api.NComm:  asTwo(comm(prim(api.Sub))),
	}
	for _, kind := range folds() {
		out[kind] = asOne(node(kind, prim(api.Add)))
	}
	return out
}

// first is which node of a program is the first of a kind, counted from 0 on.
func first(n api.Node, kind int) int {
	found, i := -1, 0
	every(&n, func(n *api.Node) {
		if n.Kind == kind && found < 0 {
			found = i
		}
		i++
	})
	return found
}

// 10.3: in a node of each kind, a field that is not named for it is zero; At plays no part.
func TestFields(t *testing.T) {
	for kind, n := range rightForms() {
		what, at := "kind "+strconv.Itoa(kind), first(n, kind)
		expectCheck(t, what, n, true)
		for _, op := range []int{-1, 1, api.Add, most, least} {
			if kind != api.NPrim && kind != api.NPow {
				expectCheck(t, what+", Op", changed(n, at, func(n *api.Node) { n.Op = op }), false)
			}
		}
		for _, s := range []string{"a", "x", "+", " "} {
			if kind != api.NVar {
				expectCheck(t, what+", Name", changed(n, at, func(n *api.Node) { n.Name = s }), false)
			}
		}
		for _, a := range []api.Arr{arr.Atom(0), nums(), nums(1, 2), {Shape: []int{0}}, {Shape: []int{2}}, with(nil, sign(97)), atom(box(nums())), {Cells: nums(1, 2).Cells}} {
			if kind != api.NLit {
				expectCheck(t, what+", Lit", changed(n, at, func(n *api.Node) { n.Lit = a }), false)
			}
		}
		expectCheck(t, what+", nothing that is not nil", changed(n, at, func(n *api.Node) {
			if kind != api.NLit {
				n.Lit = api.Arr{Shape: []int{}, Cells: []api.Cell{}}
			}
			if n.Kids == nil {
				n.Kids = []api.Node{}
			}
		}), true)
		for _, where := range []int{least, -1, 1, 99, most} {
			expectCheck(t, what+", At", changed(n, at, func(n *api.Node) { n.At = where }), true)
		}
	}
}

// 10.3: a node of each kind has just as many parts as it says.
func TestParts(t *testing.T) {
	spare := []api.Node{lit(1), name("a"), right(), prim(api.Neg), prim(api.Add), twice(), both(), {}}
	for kind, n := range rightForms() {
		what, at := "kind "+strconv.Itoa(kind), first(n, kind)
		var parts []api.Node
		changed(n, at, func(n *api.Node) { parts = n.Kids })
		for many := range len(parts) {
			expectCheck(t, what+", fewer parts", changed(n, at, func(n *api.Node) { n.Kids = parts[:many] }), false)
			expectCheck(t, what+", the first ones left out", changed(n, at, func(n *api.Node) { n.Kids = parts[many+1:] }), false)
		}
		expectCheck(t, what+", nil", changed(n, at, func(n *api.Node) { n.Kids = nil }), len(parts) == 0)
		for _, more := range spare {
			expectCheck(t, what+", one part more", changed(n, at, func(n *api.Node) { n.Kids = append(parts[:len(parts):len(parts)], more) }), false)
			expectCheck(t, what+", one part more, ahead", changed(n, at, func(n *api.Node) { n.Kids = append([]api.Node{more}, parts...) }), false)
		}
		for many := range 6 {
			if many == len(parts) {
				continue
			}
			for _, part := range spare {
				same := make([]api.Node, many)
				for i := range same {
					same[i] = part
				}
				expectCheck(t, what+", "+strconv.Itoa(many)+" parts alike", changed(n, at, func(n *api.Node) { n.Kids = same }), false)
			}
		}
	}
}

// 10.3: kinds of nodes that are none of the calculus, in every place.
func TestKinds(t *testing.T) {
	none := []int{least, -1, 0, 7, api.NIndex, 9, 20, api.NAdv, api.NFork, api.NHook, 29, 30, 36, 100, 1<<32 + api.NLit, most}
	for _, kind := range none {
		what := "kind " + strconv.Itoa(kind)
		for many := range 4 {
			n := node(kind, []api.Node{lit(1), lit(2), lit(3)}[:many]...)
			expectCheck(t, what, n, false)
			expectFunction(t, what, n, false, false)
		}
		expectFunction(t, what, node(kind, prim(api.Add)), false, false)
		expectFunction(t, what, node(kind, twice()), false, false)
		expectFunction(t, what, node(kind, prim(api.Add), prim(api.Neg), prim(api.Add)), false, false)
		for _, n := range rightForms() {
			for at := range core.Size(n) {
				expectCheck(t, what, changed(n, at, func(n *api.Node) { n.Kind = kind }), false)
			}
		}
	}
}

// tree is a program of so many nodes, which lies no deeper than it must.
func tree(size int) api.Node {
	switch size {
	case 1:
		return lit(1)
	case 3, 5:
		return mo(prim(api.Neg), tree(size-2))
	}
	half := (size - 2) / 2
	if half == 2 {
		// No expression has two nodes.
		half = 1
	}
	return dy(prim(api.Add), tree(half), tree(size-2-half))
}

// 10.3: how many nodes there may be.
func TestNodes(t *testing.T) {
	for _, size := range []int{1, 3, 4, 5, 6, 7, 8, 9, 100, 1023, 1024, 1025, 2046, 2047, 2048, 2049, 2050, 4096, 4097, 10000} {
		n := tree(size)
		if got := core.Size(n); got != size {
			t.Fatalf("the test's own program has %d nodes; want %d", got, size)
		}
		expectCheck(t, strconv.Itoa(size)+" nodes", n, size <= 2048)
		expectCheck(t, strconv.Itoa(size+3)+" nodes, in a text", inText(n), size+3 <= 2048)
		expectCheck(t, strconv.Itoa(size+6)+" nodes, in a text within a text", inText(inText(n)), size+6 <= 2048)
	}
	full := tree(2048)
	for i := range full.Kids {
		expectCheck(t, "a part of 2048 nodes", full.Kids[i], i > 0)
	}
	for _, f := range []api.Node{comm(prim(api.Sub)), outer(prim(api.Add)), both()} {
		many := 2048 - 1 - core.Size(f) - 1
		expectCheck(t, "2048 nodes", dy(f, lit(1), tree(many)), true)
		expectCheck(t, "2049 nodes", dy(f, lit(1), tree(many+1)), false)
		expectCheck(t, "2048 nodes, on the left", dy(f, tree(many), lit(1)), true)
		expectCheck(t, "2049 nodes, on the left", dy(f, tree(many+1), lit(1)), false)
	}
	for _, f := range []api.Node{node(api.NRedF, prim(api.Add)), node(api.NScanL, comm(prim(api.Add))), power(9, twice()), comm(both())} {
		many := 2048 - 1 - core.Size(f)
		expectCheck(t, "2048 nodes", mo(f, tree(many)), true)
		expectCheck(t, "2049 nodes", mo(f, tree(many+1)), false)
	}
}

// under puts a program so many calls deep.
func under(deep int, n api.Node) api.Node {
	for i := range deep {
		switch i % 3 {
		case 0:
			n = mo(prim(api.Neg), n)
		case 1:
			n = dy(prim(api.Add), n, lit(1))
		case 2:
			n = dy(prim(api.Add), lit(1), n)
		}
	}
	return n
}

// 10.3: how deep nodes may lie: of each form, how far its deepest node is below it.
func TestDeep(t *testing.T) {
	forms := []struct {
		what  string
		n     api.Node
		below int
	}{
		{"a literal", lit(1), 0},
		{"a name", name("a"), 0},
		{"a call", asOne(prim(api.Neg)), 1},
		{"a call of two", asTwo(prim(api.Add)), 1},
		{"a call on the left", dy(prim(api.Add), asOne(prim(api.Neg)), lit(1)), 2},
		{"a call on the right", dy(prim(api.Add), lit(1), asOne(prim(api.Neg))), 2},
		{"a turned one", asTwo(comm(prim(api.Sub))), 2},
		{"a turned one of one", asOne(comm(prim(api.Sub))), 2},
		{"each with each", asTwo(outer(prim(api.Add))), 2},
		{"each with each, turned", asTwo(outer(comm(prim(api.Add)))), 3},
		{"folded", asOne(node(api.NRedF, prim(api.Add))), 2},
		{"folded, turned", asOne(node(api.NScanL, comm(prim(api.Sub)))), 3},
		{"a text", asOne(lam1(lit(1))), 2},
		{"a text of an argument", asOne(lam1(right())), 2},
		{"a text of a call", asOne(twice()), 3},
		{"a text of two", asTwo(both()), 3},
		{"a text of two, turned", asTwo(comm(both())), 4},
		{"a text, often", asOne(power(2, lam1(right()))), 3},
		{"a text of a text", inText(inText(right())), 4},
	}
	for _, c := range forms {
		for deep := range 40 {
			expectCheck(t, c.what+" at "+strconv.Itoa(deep), under(deep, c.n), deep+c.below <= 24)
		}
	}
	n := right()
	for i := 1; i < 20; i++ {
		n = mo(lam1(n), right())
		// Each text lies two deeper than the one about it; the first call of all is outside of texts.
		expectCheck(t, strconv.Itoa(i)+" texts within one another", asOne(lam1(n)), 2*i+2 <= 24)
	}
}

// 10.3, P1: programs that are far too great are refused.
func TestGreat(t *testing.T) {
	chain := lit(1)
	for range 1<<16 - 1 {
		chain = mo(prim(api.Neg), chain)
	}
	expectCheck(t, "calls, far too deep", chain, false)
	texts := right()
	for range 1 << 14 {
		texts = mo(lam1(texts), right())
	}
	expectCheck(t, "texts, far too deep", asOne(lam1(texts)), false)
	turns := prim(api.Sub)
	for range 1<<16 - 2 {
		turns = comm(turns)
	}
	expectFunction(t, "turned, far too often", turns, false, false)
	shared := lit(1)
	for range 24 {
		shared = dy(prim(api.Add), shared, shared)
	}
	expectCheck(t, "both sides the same memory, far too many nodes", shared, false)
	wide := node(api.NMo, make([]api.Node, 1<<20)...)
	expectCheck(t, "far too many parts", wide, false)
	expectCheck(t, "a name, far too long", name(strings.Repeat("a", 1<<20)), false)
	expectCheck(t, "a literal, far too long", value(list(make([]api.Cell, 1<<20)...)), false)
	expectCheck(t, "an axis, far too long", value(with([]int{math.MaxInt})), false)
}

// 10.5: the arguments of a call may be programs themselves.
func TestArgumentsArePrograms(t *testing.T) {
	look := func(n api.Node) {
		for n.Kind == api.NMo || n.Kind == api.NDy {
			for _, x := range n.Kids[1:] {
				expectCheck(t, "an argument", x, true)
			}
			n = n.Kids[len(n.Kids)-1]
		}
	}
	for _, n := range rightForms() {
		expectCheck(t, "a program", n, true)
		look(n)
	}
	look(under(24, lit(1)))
	look(under(20, asTwo(comm(both()))))
	look(tree(2048))
	expectCheck(t, "a call's function", prim(api.Neg), false)
	expectCheck(t, "a function's text", twice().Kids[0], false)
}
