package core_test

import (
	"slices"
	"testing"

	"triglyph/api"
	"triglyph/arr"
	"triglyph/core"
)

// expectSame holds what Same answers, both ways round, against what is asked for.
func expectSame(t *testing.T, what string, a, b api.Node, want bool) {
	t.Helper()
	if core.Same(a, b) != want || core.Same(b, a) != want {
		t.Errorf("%s: %v, %v; want %v", what, core.Same(a, b), core.Same(b, a), want)
	}
}

// wide is a node with all fields and parts, which need not be one that may be.
func wide() api.Node {
	n := api.Node{Kind: 77, Op: -5, Name: "a⍵", Lit: list(number(1), sign(97), box(nums(1, 2))), At: 4}
	n.Kids = []api.Node{lit(1), {Kind: 9, Op: 3, Name: "b", Lit: with([]int{2, 9}, number(1)), Kids: []api.Node{right(), {}}}, both()}
	return n
}

// samples are programs that may be, and ones that may not; no two are the same.
func samples() []api.Node {
	out := []api.Node{
		{}, lit(5), lit(6), value(nums()), value(nums(5)), value(nums(5, 6)), value(atom(sign(5))), name("a"), name("b"), name(""),
		left(), right(), prim(api.Neg), prim(api.Add), mo(prim(api.Neg), lit(5)), mo(prim(api.Neg), lit(6)), mo(prim(api.Sgn), lit(5)),
		dy(prim(api.Add), lit(5), lit(6)), dy(prim(api.Add), lit(6), lit(5)), dy(prim(api.Sub), lit(5), lit(6)), asOne(twice()), asTwo(both()), asTwo(comm(both())),
		asOne(power(2, twice())), asOne(power(3, twice())), under(24, lit(5)), under(25, lit(5)), tree(2048), tree(2049), wide(),
		node(api.NMo), node(api.NMo, lit(5)), node(api.NMo, lit(5), lit(5)), node(api.NMo, lit(5), lit(5), lit(5)), node(api.NDy, lit(5), lit(5)), node(-1), node(1 << 40),
	}
	for _, kind := range folds() {
		out = append(out, asOne(node(kind, prim(api.Add))), asOne(node(kind, comm(prim(api.Add)))))
	}
	return out
}

// 10.4: each program is the same as itself, and as a copy of it, and as no other.
func TestSame(t *testing.T) {
	l := samples()
	for i, a := range l {
		for j, b := range l {
			expectSame(t, "samples", a, copyNode(b), i == j)
		}
		expectSame(t, "itself", a, a, true)
	}
}

// 10.4: programs that are alike but for one field of one node.
func TestSameField(t *testing.T) {
	changes := map[string]func(n *api.Node){
		"Kind":               func(n *api.Node) { n.Kind++ },
		"Op":                 func(n *api.Node) { n.Op++ },
		"a great Op":         func(n *api.Node) { n.Op += 1 << 32 },
		"Name":               func(n *api.Node) { n.Name += "a" },
		"Lit's axes":         func(n *api.Node) { n.Lit.Shape = append(slices.Clone(n.Lit.Shape), 1) },
		"Lit's cells":        func(n *api.Node) { n.Lit.Cells = append(slices.Clone(n.Lit.Cells), number(0)) },
		"a part more":        func(n *api.Node) { n.Kids = append(slices.Clone(n.Kids), api.Node{}) },
		"a part more, ahead": func(n *api.Node) { n.Kids = append([]api.Node{{}}, n.Kids...) },
	}
	for _, n := range samples() {
		if core.Size(n) > 100 {
			continue
		}
		for at := range core.Size(n) {
			for what, change := range changes {
				expectSame(t, what, n, changed(n, at, change), false)
			}
			expectSame(t, "At", n, changed(n, at, func(n *api.Node) { n.At += 7 }), true)
			expectSame(t, "a part fewer", n, changed(n, at, func(n *api.Node) { n.Kids = n.Kids[:max(len(n.Kids)-1, 0)] }), partsAt(n, at) == 0)
			expectSame(t, "no part", n, changed(n, at, func(n *api.Node) { n.Kids = nil }), partsAt(n, at) == 0)
		}
	}
}

// partsAt is how many parts one of a program's nodes has.
func partsAt(n api.Node, at int) int {
	many := 0
	changed(n, at, func(n *api.Node) { many = len(n.Kids) })
	return many
}

// 10.4: At plays no part in any node.
func TestSameAt(t *testing.T) {
	for _, n := range samples() {
		moved, at := copyNode(n), 0
		every(&moved, func(n *api.Node) {
			at += 3
			n.At = at
		})
		expectSame(t, "moved", n, moved, true)
		if a, b := core.Check(n), core.Check(moved); a != b {
			t.Errorf("Check: %v; moved %v", a, b)
		}
	}
}

// 10.4: literals are the same where arr.Cmp says so.
func TestSameLit(t *testing.T) {
	arrays := []api.Arr{
		{}, arr.Atom(0), arr.Atom(1), atom(sign(1)), nums(), nums(1), nums(1, 2), nums(2, 1), nums(1, 2, 3), list(sign(1), number(2)), list(sign(1), sign(2)),
		with([]int{2, 1}, nums(1, 2).Cells...), with([]int{1, 2}, nums(1, 2).Cells...), with([]int{0, 2}), with([]int{2, 0}),
		atom(box(nums(1))), atom(box(nums(2))), atom(box(atom(box(nums(1))))), atom(api.Cell{Kind: api.CBox}),
		with([]int{2}, number(1)), with([]int{2}), {Cells: nums(1, 2).Cells}, with([]int{-1}),
		// Of a box's arrays the first alone counts for Cmp.
		atom(api.Cell{Kind: api.CBox, Box: []api.Arr{nums(1), nums(2)}}), atom(api.Cell{Kind: api.CBox, Box: []api.Arr{nums(1), nums(3)}}),
	}
	for _, a := range arrays {
		for _, b := range arrays {
			want := arr.Cmp(a, b) == 0
			expectSame(t, "NLit", value(a), value(copyArr(b)), want)
			expectSame(t, "another kind", api.Node{Kind: api.NPrim, Lit: a}, api.Node{Kind: api.NPrim, Lit: b}, want)
			expectSame(t, "a part", mo(prim(api.Neg), value(a)), mo(prim(api.Neg), value(b)), want)
		}
	}
}

// 10.4: parts are held against each other one by one.
func TestSameParts(t *testing.T) {
	parts := []api.Node{lit(1), lit(2), name("a"), prim(api.Add), {}}
	for i := range parts {
		other := slices.Clone(parts)
		other[i] = lit(3)
		expectSame(t, "one part unlike", node(api.NMo, parts...), node(api.NMo, other...), false)
		expectSame(t, "one part unlike, deeper", mo(prim(api.Neg), node(99, parts...)), mo(prim(api.Neg), node(99, other...)), false)
		expectSame(t, "fewer parts", node(api.NMo, parts...), node(api.NMo, parts[:i]...), false)
		expectSame(t, "one left out", node(api.NMo, parts...), node(api.NMo, slices.Delete(slices.Clone(parts), i, i+1)...), false)
		if i > 0 {
			other = slices.Clone(parts)
			other[i-1], other[i] = other[i], other[i-1]
			expectSame(t, "exchanged", node(api.NMo, parts...), node(api.NMo, other...), false)
		}
	}
	expectSame(t, "nil and nothing", api.Node{Kind: api.NMo}, api.Node{Kind: api.NMo, Kids: []api.Node{}, Lit: api.Arr{Shape: []int{}, Cells: []api.Cell{}}}, true)
}

// 10.4: how many nodes, of programs that may be and of ones that may not.
func TestSize(t *testing.T) {
	cases := []struct {
		what string
		n    api.Node
		want int
	}{
		{"no node", api.Node{}, 1},
		{"a literal", lit(5), 1},
		{"a literal of many cells", value(nums(1, 2, 3)), 1},
		{"a name", name("a"), 1},
		{"an argument alone", left(), 1},
		{"a call", mo(prim(api.Neg), lit(5)), 3},
		{"a call of two", dy(prim(api.Add), lit(1), lit(2)), 4},
		{"a call of a call", mo(prim(api.Neg), mo(prim(api.Neg), lit(5))), 5},
		{"a text", asOne(twice()), 1 + 1 + 4 + 1},
		{"a text of two, turned", asTwo(comm(both())), 1 + 1 + 1 + 4 + 2},
		{"folded", asOne(node(api.NRedF, comm(prim(api.Sub)))), 5},
		{"parts of what may have none", node(api.NLit, lit(1), lit(2), lit(3)), 4},
		{"parts of what is no kind", node(-1, node(-2, lit(1)), api.Node{}), 4},
		{"all fields", wide(), 1 + 1 + 3 + 5},
		{"a call too deep", under(30, lit(5)), 1 + 10*(2+3+3)},
		{"many nodes", tree(5000), 5000},
		{"many parts", node(5, make([]api.Node, 100000)...), 100001},
	}
	for _, c := range cases {
		for range 2 {
			if got := core.Size(c.n); got != c.want {
				t.Errorf("%s: %d; want %d", c.what, got, c.want)
			}
		}
	}
}

// 10.4, R7: as many parts within one another as a program may be given.
func TestDeepest(t *testing.T) {
	chain := func(last api.Node) api.Node {
		for range 1<<16 - 1 {
			last = node(api.NComm, last)
		}
		return last
	}
	a := chain(lit(1))
	if got := core.Size(a); got != 1<<16 {
		t.Errorf("Size: %d", got)
	}
	expectSame(t, "alike", a, chain(lit(1)), true)
	expectSame(t, "the last unlike", a, chain(lit(2)), false)
}

// R3: what comes in stays as it was.
func TestStays(t *testing.T) {
	l := samples()
	for i, n := range l {
		other := l[(i+1)%len(l)]
		was, otherWas := copyNode(n), copyNode(other)
		core.Check(n)
		core.Size(n)
		core.Same(n, other)
		core.Same(n, n)
		if !alikeNode(n, was) || !alikeNode(other, otherWas) {
			t.Errorf("sample %d: changed", i)
		}
	}
}

// longer is a program with something behind each of its lists' lengths.
func longer(n api.Node) api.Node {
	n = copyNode(n)
	every(&n, func(n *api.Node) {
		n.Lit.Shape = append(n.Lit.Shape, -9)[:len(n.Lit.Shape)]
		n.Lit.Cells = append(n.Lit.Cells, box(nums(7)))[:len(n.Lit.Cells)]
		n.Kids = append(n.Kids, api.Node{Kind: -9, Op: 9})[:len(n.Kids)]
	})
	return n
}

// R3: what lies behind a list's length plays no part, and stays.
func TestBehind(t *testing.T) {
	for i, n := range samples() {
		far := longer(n)
		if a, b := core.Check(n), core.Check(far); a != b {
			t.Errorf("sample %d: Check: %v; with something behind: %v", i, a, b)
		}
		if a, b := core.Size(n), core.Size(far); a != b {
			t.Errorf("sample %d: Size: %d; with something behind: %d", i, a, b)
		}
		expectSame(t, "with something behind", n, far, true)
		every(&far, func(n *api.Node) {
			shape, cells, parts := len(n.Lit.Shape), len(n.Lit.Cells), len(n.Kids)
			if n.Lit.Shape[:shape+1][shape] != -9 || !alikeCell(n.Lit.Cells[:cells+1][cells], box(nums(7))) || !alikeNode(n.Kids[:parts+1][parts], api.Node{Kind: -9, Op: 9}) {
				t.Errorf("sample %d: what lies behind was changed", i)
			}
		})
	}
}
