package core_test

import (
	"math/rand"
	"testing"

	"triglyph/api"
	"triglyph/core"
)

// What a node can be, each a bit.
const (
	isExpression = 1 << iota
	isOne
	isTwo
	isTurned
	isBetween
	isCellwise
	isLam1
	namesLeft
	namesRight
)

// whatIs says 10.3 another way, from the parts up: all that a node can be, and which arguments of a text about it it names; 0, if it can be nothing.
func whatIs(n api.Node) int {
	var parts []int
	for _, part := range n.Kids {
		parts = append(parts, whatIs(part))
	}
	at := func(i, what int) bool { return i < len(parts) && parts[i]&what != 0 }
	alone := api.Node{Kind: n.Kind}
	out := 0
	switch {
	case n.Kind == api.NLit && core.Literal(n.Lit):
		alone.Lit, out = n.Lit, isExpression
	case n.Kind == api.NVar && core.Name(n.Name):
		alone.Name, out = n.Name, isExpression
	case n.Kind == api.NLeft:
		out = isExpression | namesLeft
	case n.Kind == api.NRight:
		out = isExpression | namesRight
	case n.Kind == api.NMo && at(0, isOne) && at(1, isExpression):
		alone.Kids, out = n.Kids[:2], parts[1]
	case n.Kind == api.NDy && at(0, isTwo) && at(1, isExpression) && at(2, isExpression):
		alone.Kids, out = n.Kids[:3], parts[1]|parts[2]
	default:
		return functionIs(n, at)
	}
	return onlyIf(n, alone, out)
}

// functionIs is whatIs of a function.
func functionIs(n api.Node, at func(i, what int) bool) int {
	alone, out := api.Node{Kind: n.Kind, Kids: n.Kids[:min(1, len(n.Kids))]}, 0
	switch n.Kind {
	case api.NPrim:
		alone.Op = n.Op
		out = primitives()[n.Op]
	case api.NLam1:
		if at(0, isExpression) && !at(0, namesLeft) {
			out = isOne | isLam1
		}
	case api.NLam2:
		if at(0, isExpression) && at(0, namesLeft) && at(0, namesRight) {
			out = isTwo | isTurned
		}
	case api.NRedF, api.NRedL, api.NScanF, api.NScanL:
		if at(0, isBetween) {
			out = isOne
		}
	case api.NOuter:
		if at(0, isBetween) {
			out = isTwo
		}
	case api.NComm:
		if at(0, isTurned) {
			out = isOne | isTwo
		}
		if at(0, isCellwise) {
			out |= isBetween
		}
	case api.NPow:
		alone.Op = n.Op
		if at(0, isLam1) && n.Op >= 0 && n.Op <= 4096 {
			out = isOne
		}
	}
	if n.Kind == api.NPrim {
		alone.Kids = nil
	}
	return onlyIf(n, alone, out)
}

// primitives are what each of them can be.
func primitives() map[int]int {
	out := map[int]int{}
	for op := api.Neg; op <= api.Recip; op++ {
		out[op] = isOne
	}
	for op := api.Add; op <= api.Ge; op++ {
		out[op] = isTwo | isTurned | isBetween | isCellwise
	}
	for op := api.Reshape; op <= api.Div; op++ {
		out[op] = isTwo | isTurned
	}
	out[api.From] = isTwo
	out[api.At] = isTwo
	return out
}

// onlyIf is what a node can be, if it has nothing but what is named for it.
func onlyIf(n, alone api.Node, what int) int {
	n.At = 0
	if n.Op != alone.Op || n.Name != alone.Name || len(n.Kids) != len(alone.Kids) || !alikeArr(n.Lit, alone.Lit) {
		return 0
	}
	return what
}

// plainDeep is how far a program's deepest node lies below its first one.
func plainDeep(n api.Node) int {
	deep := 0
	for _, part := range n.Kids {
		deep = max(deep, 1+plainDeep(part))
	}
	return deep
}

// plainCheck says whether a program may be, by the other way.
func plainCheck(n api.Node) bool {
	what, nodes := whatIs(n), 0
	every(&n, func(*api.Node) { nodes++ })
	return what&isExpression != 0 && what&(namesLeft|namesRight) == 0 && nodes <= 2048 && plainDeep(n) <= 24
}

// chance makes programs by chance.
type chance struct{ *rand.Rand }

// pick is one of some numbers.
func (r chance) pick(l ...int) int { return l[r.Intn(len(l))] }

// expression is one within a text that has such arguments, with so many calls within one another at most.
func (r chance) expression(deep int, arguments ...api.Node) api.Node {
	if deep <= 0 || r.Intn(5) == 0 {
		all := append([]api.Node{lit(7), value(nums(1, 2)), value(nums()), name("a"), name("b1")}, arguments...)
		all = append(all, arguments...)
		return all[r.Intn(len(all))]
	}
	if r.Intn(2) == 0 {
		return mo(r.one(deep-1), r.expression(deep-1, arguments...))
	}
	return dy(r.two(deep-1), r.expression(deep-1, arguments...), r.expression(deep-1, arguments...))
}

// scalar is a primitive that goes cell by cell.
func (r chance) scalar() api.Node { return prim(api.Add + r.Intn(api.Ge-api.Add+1)) }

// between is a function for between items.
func (r chance) between() api.Node {
	if r.Intn(2) == 0 {
		return comm(r.scalar())
	}
	return r.scalar()
}

// lambda is a function of one by a text.
func (r chance) lambda(deep int) api.Node { return lam1(r.expression(deep-1, right())) }

// one is a function of one argument.
func (r chance) one(deep int) api.Node {
	switch r.Intn(6) {
	case 0:
		return r.lambda(deep)
	case 1:
		return node(folds()[r.Intn(4)], r.between())
	case 2:
		return comm(r.turnable(deep))
	case 3:
		return power(r.pick(0, 1, 5, 4096), r.lambda(deep))
	}
	return prim(1 + r.Intn(19))
}

// turnable is a function that may be turned.
func (r chance) turnable(deep int) api.Node {
	switch r.Intn(3) {
	case 0:
		return r.scalar()
	case 1:
		return prim(api.Reshape + r.Intn(api.Div-api.Reshape+1))
	}
	return lam2(dy(r.scalar(), left(), dy(r.scalar(), right(), r.expression(deep-1, left(), right()))))
}

// two is a function of two arguments.
func (r chance) two(deep int) api.Node {
	switch r.Intn(5) {
	case 0:
		return outer(r.between())
	case 1:
		return comm(r.turnable(deep))
	}
	return r.turnable(deep)
}

// broken is a program with something small changed in one of its nodes; it may still be one that may be.
func (r chance) broken(n api.Node) api.Node {
	kind := kinds()[r.Intn(len(kinds()))]
	how := r.Intn(9)
	return changed(n, r.Intn(core.Size(n)), func(n *api.Node) {
		switch {
		case how == 0:
			n.Kind = kind
		case how == 1:
			n.Op = r.pick(-1, 0, 1, 19, 20, 21, 32, 33, 40, 41, 52, 53, 54, 55, 4096, 4097)
		case how == 2:
			n.Name = []string{"", "a", "x", "abcdefghi"}[r.Intn(4)]
		case how == 3:
			n.Lit = []api.Arr{{}, nums(1), nums(1, 2), atom(sign(31)), atom(sign(97)), atom(box(nums()))}[r.Intn(6)]
		case how == 4 && len(n.Kids) > 0:
			n.Kids = n.Kids[:len(n.Kids)-1]
		case how == 5:
			n.Kids = append(n.Kids, r.expression(1))
		case how == 6 && len(n.Kids) > 0:
			n.Kids[r.Intn(len(n.Kids))] = []api.Node{left(), right(), r.scalar(), prim(api.Neg), r.one(1), r.two(1)}[r.Intn(6)]
		case how == 7 && len(n.Kids) > 0:
			i, j := r.Intn(len(n.Kids)), r.Intn(len(n.Kids))
			n.Kids[i], n.Kids[j] = n.Kids[j], n.Kids[i]
		default:
			*n = []api.Node{left(), right(), lit(1), prim(api.From), prim(api.At), twice(), both()}[r.Intn(7)]
		}
	})
}

// 10.3: programs by chance, and ones with a break or two, held against the other way to say it.
func TestChance(t *testing.T) {
	r := chance{rand.New(rand.NewSource(10))}
	counts := map[bool]int{}
	for range 40000 {
		n := r.expression(1 + r.Intn(6))
		for range r.Intn(3) {
			n = r.broken(n)
		}
		want := plainCheck(n)
		counts[want]++
		if got := core.Check(n) == api.OK; got != want {
			t.Fatalf("%v: %v; want %v", n, got, want)
		}
	}
	if counts[true] < 5000 || counts[false] < 5000 {
		t.Errorf("the programs are too much alike: %v", counts)
	}
}

// 10.3: nodes of every kind with parts of some forms, in each place of a program, held against the other way to say it.
func TestEachInEach(t *testing.T) {
	pool := []api.Node{lit(1), left(), right(), dy(prim(api.Add), left(), right()), prim(api.Neg), prim(api.Add), prim(api.Take), prim(api.From), prim(api.At), twice(), both(), comm(prim(api.Add)), comm(both()), {}}
	var made []api.Node
	for _, kind := range kinds() {
		made = append(made, node(kind))
		for _, a := range pool {
			made = append(made, node(kind, a))
			for _, b := range pool {
				made = append(made, node(kind, a, b), node(kind, a, lit(1), b), node(kind, a, right(), b))
			}
		}
	}
	may := 0
	for _, n := range made {
		places := []api.Node{n, asOne(n), asTwo(n), asOne(lam1(n)), asTwo(lam2(n)), asOne(comm(n)), asTwo(comm(n)), asTwo(outer(n)), asOne(power(1, n)), asOne(node(api.NRedF, n)), asOne(node(api.NScanL, comm(n))), asTwo(lam2(dy(prim(api.Add), left(), n)))}
		for _, p := range places {
			want := plainCheck(p)
			if want {
				may++
			}
			expectCheck(t, "each in each", p, want)
		}
	}
	if may < 100 {
		t.Errorf("just %d of them may be", may)
	}
}

// 10.5: of programs by chance that may be, the arguments of the first call may be.
func TestChanceArguments(t *testing.T) {
	r := chance{rand.New(rand.NewSource(105))}
	for range 5000 {
		n := r.expression(5)
		if core.Check(n) != api.OK || n.Kind != api.NMo && n.Kind != api.NDy {
			continue
		}
		for _, x := range n.Kids[1:] {
			expectCheck(t, "an argument", x, true)
		}
	}
}

// 10.4: programs by chance are the same as their copies, have as many nodes as are met on the way, and are not the same with a break that shows.
func TestChanceSame(t *testing.T) {
	r := chance{rand.New(rand.NewSource(104))}
	for range 5000 {
		n := r.expression(5)
		nodes := 0
		every(&n, func(*api.Node) { nodes++ })
		if got := core.Size(n); got != nodes {
			t.Fatalf("%v: %d nodes; want %d", n, got, nodes)
		}
		expectSame(t, "a copy", n, copyNode(n), true)
		other := r.broken(n)
		expectSame(t, "a break", n, other, alikeNode(n, other))
	}
}
