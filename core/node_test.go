package core_test

import (
	"slices"

	"triglyph/api"
	"triglyph/arr"
)

// node is one of a kind, with parts.
func node(kind int, parts ...api.Node) api.Node { return api.Node{Kind: kind, Kids: parts} }

// Expressions.
func lit(n int64) api.Node               { return api.Node{Kind: api.NLit, Lit: arr.Atom(n)} }
func value(a api.Arr) api.Node           { return api.Node{Kind: api.NLit, Lit: a} }
func name(s string) api.Node             { return api.Node{Kind: api.NVar, Name: s} }
func left() api.Node                     { return api.Node{Kind: api.NLeft} }
func right() api.Node                    { return api.Node{Kind: api.NRight} }
func mo(f, x api.Node) api.Node          { return node(api.NMo, f, x) }
func dy(f, x, y api.Node) api.Node       { return node(api.NDy, f, x, y) }
func asOne(f api.Node) api.Node          { return mo(f, lit(1)) }
func asTwo(f api.Node) api.Node          { return dy(f, lit(1), lit(2)) }
func inText(x api.Node) api.Node         { return asOne(lam1(x)) }
func withOp(n api.Node, op int) api.Node { n.Op = op; return n }

// Functions.
func prim(op int) api.Node              { return api.Node{Kind: api.NPrim, Op: op} }
func lam1(x api.Node) api.Node          { return node(api.NLam1, x) }
func lam2(x api.Node) api.Node          { return node(api.NLam2, x) }
func comm(f api.Node) api.Node          { return node(api.NComm, f) }
func outer(f api.Node) api.Node         { return node(api.NOuter, f) }
func power(op int, f api.Node) api.Node { return withOp(node(api.NPow, f), op) }

// both is a function of two, by a text.
func both() api.Node { return lam2(dy(prim(api.Add), left(), right())) }

// twice is a function of one, by a text.
func twice() api.Node { return lam1(dy(prim(api.Add), right(), right())) }

// folds are the kinds that put a function between items, of one argument.
func folds() []int { return []int{api.NRedF, api.NRedL, api.NScanF, api.NScanL} }

// kinds are all kinds that api names.
func kinds() []int {
	return []int{api.NLit, api.NVar, api.NLeft, api.NRight, api.NMo, api.NDy, api.NIndex, api.NPrim, api.NLam1, api.NLam2, api.NAdv, api.NOuter, api.NPow, api.NFork, api.NHook, api.NRedF, api.NRedL, api.NScanF, api.NScanL, api.NComm}
}

// copyArr and copyNode are any array and any node, that may be or not, in new memory.
func copyArr(a api.Arr) api.Arr {
	out := api.Arr{Shape: slices.Clone(a.Shape), Cells: slices.Clone(a.Cells)}
	for i, c := range out.Cells {
		out.Cells[i].Box = slices.Clone(c.Box)
		for j, within := range c.Box {
			out.Cells[i].Box[j] = copyArr(within)
		}
	}
	return out
}

func copyNode(n api.Node) api.Node {
	n.Lit = copyArr(n.Lit)
	n.Kids = slices.Clone(n.Kids)
	for i, part := range n.Kids {
		n.Kids[i] = copyNode(part)
	}
	return n
}

// alikeArr, alikeCell and alikeNode: the same fields all the way down, At with them; nil and nothing are alike.
func alikeArr(a, b api.Arr) bool {
	return slices.Equal(a.Shape, b.Shape) && slices.EqualFunc(a.Cells, b.Cells, alikeCell)
}

func alikeCell(a, b api.Cell) bool {
	return a.Kind == b.Kind && a.N == b.N && slices.EqualFunc(a.Box, b.Box, alikeArr)
}

func alikeNode(a, b api.Node) bool {
	return a.Kind == b.Kind && a.Op == b.Op && a.Name == b.Name && a.At == b.At &&
		alikeArr(a.Lit, b.Lit) && slices.EqualFunc(a.Kids, b.Kids, alikeNode)
}

// every calls something with every node of a program.
func every(n *api.Node, do func(n *api.Node)) {
	do(n)
	for i := range n.Kids {
		every(&n.Kids[i], do)
	}
}

// changed is a program with one of its nodes, counted from 0 on, changed.
func changed(n api.Node, at int, change func(n *api.Node)) api.Node {
	out, i := copyNode(n), 0
	every(&out, func(n *api.Node) {
		if i == at {
			change(n)
		}
		i++
	})
	return out
}
