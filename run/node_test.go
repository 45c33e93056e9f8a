package run_test

import (
	"math"
	"slices"

	"triglyph/api"
	"triglyph/arr"
)

const (
	least = math.MinInt
	most  = math.MaxInt
	full  = api.MaxCells
)

// number, sign and box are cells that may be.
func number(n int64) api.Cell { return api.Cell{Kind: api.CInt, N: n} }
func sign(n int64) api.Cell   { return api.Cell{Kind: api.CChar, N: n} }
func box(a api.Arr) api.Cell  { return api.Cell{Kind: api.CBox, Box: []api.Arr{a}} }

// atom, list, with, of, nums and text are arrays of cells.
func atom(c api.Cell) api.Arr                 { return api.Arr{Cells: []api.Cell{c}} }
func list(c ...api.Cell) api.Arr              { return api.Arr{Shape: []int{len(c)}, Cells: c} }
func with(shape []int, c ...api.Cell) api.Arr { return api.Arr{Shape: shape, Cells: c} }
func of(shape []int, l ...int64) api.Arr      { return with(shape, arr.Nums(l).Cells...) }
func num(n int64) api.Arr                     { return arr.Atom(n) }
func nums(l ...int64) api.Arr                 { return arr.Nums(l) }
func text(s string) api.Arr {
	out := api.Arr{Shape: []int{len(s)}}
	for _, r := range s {
		out.Cells = append(out.Cells, sign(int64(r)))
	}
	return out
}

// boxes is an array within so many boxes.
func boxes(many int, within api.Arr) api.Arr {
	for range many {
		within = atom(box(within))
	}
	return within
}

// counted is the numbers from 0 on in a shape.
func counted(shape ...int) api.Arr {
	size, _ := arr.Size(shape)
	out := api.Arr{Shape: shape}
	for i := range size {
		out.Cells = append(out.Cells, number(int64(i)))
	}
	return out
}

// node is one of a kind, with parts.
func node(kind int, parts ...api.Node) api.Node { return api.Node{Kind: kind, Kids: parts} }

// Expressions.
func value(a api.Arr) api.Node     { return api.Node{Kind: api.NLit, Lit: a} }
func lit(l ...int64) api.Node      { return value(literal(l)) }
func name(s string) api.Node       { return api.Node{Kind: api.NVar, Name: s} }
func left() api.Node               { return api.Node{Kind: api.NLeft} }
func right() api.Node              { return api.Node{Kind: api.NRight} }
func mo(f, x api.Node) api.Node    { return node(api.NMo, f, x) }
func dy(f, x, y api.Node) api.Node { return node(api.NDy, f, x, y) }
func one(op int, x api.Node) api.Node {
	return mo(prim(op), x)
}
func two(op int, x, y api.Node) api.Node {
	return dy(prim(op), x, y)
}

// literal is numbers as they would be read: one alone is an atom.
func literal(l []int64) api.Arr {
	if len(l) == 1 {
		return num(l[0])
	}
	return nums(l...)
}

// Functions.
func prim(op int) api.Node      { return api.Node{Kind: api.NPrim, Op: op} }
func lam1(x api.Node) api.Node  { return node(api.NLam1, x) }
func lam2(x api.Node) api.Node  { return node(api.NLam2, x) }
func comm(f api.Node) api.Node  { return node(api.NComm, f) }
func outer(f api.Node) api.Node { return node(api.NOuter, f) }
func power(often int, f api.Node) api.Node {
	return api.Node{Kind: api.NPow, Op: often, Kids: []api.Node{f}}
}

// twice is a function of one, by a text: its argument and itself added.
func twice() api.Node { return lam1(two(api.Add, right(), right())) }

// minus is a function of two, by a text: the left one less the right one.
func minus() api.Node { return lam2(two(api.Sub, left(), right())) }

// same is a function of one, by a text: its argument.
func same() api.Node { return lam1(right()) }

// folds are the kinds that put a function between items, of one argument.
func folds() []int { return []int{api.NRedF, api.NRedL, api.NScanF, api.NScanL} }

// alike, alikeCell and alikeNode: the same fields all the way down; nil and nothing are alike.
func alike(a, b api.Arr) bool {
	return slices.Equal(a.Shape, b.Shape) && slices.EqualFunc(a.Cells, b.Cells, alikeCell)
}

func alikeCell(a, b api.Cell) bool {
	return a.Kind == b.Kind && a.N == b.N && slices.EqualFunc(a.Box, b.Box, alike)
}

func alikeNode(a, b api.Node) bool {
	return a.Kind == b.Kind && a.Op == b.Op && a.Name == b.Name && a.At == b.At &&
		alike(a.Lit, b.Lit) && slices.EqualFunc(a.Kids, b.Kids, alikeNode)
}

func alikeEnv(a, b api.Env) bool {
	return slices.Equal(a.Names, b.Names) && slices.EqualFunc(a.Vals, b.Vals, alike)
}

// copyArr, copyNode and copyEnv are any of these, that may be or not, in new memory.
func copyArr(a api.Arr) api.Arr {
	out := api.Arr{Shape: slices.Clone(a.Shape), Cells: slices.Clone(a.Cells)}
	for i, c := range out.Cells {
		out.Cells[i].Box = slices.Clone(c.Box)
		for j, within := range c.Box {
			out.Cells[i].Box[j] = copyArr(within)
		}
	}
	return out
}

func copyNode(n api.Node) api.Node {
	n.Lit = copyArr(n.Lit)
	n.Kids = slices.Clone(n.Kids)
	for i, part := range n.Kids {
		n.Kids[i] = copyNode(part)
	}
	return n
}

func copyEnv(env api.Env) api.Env {
	out := api.Env{Names: slices.Clone(env.Names), Vals: slices.Clone(env.Vals)}
	for i, a := range out.Vals {
		out.Vals[i] = copyArr(a)
	}
	return out
}

// every calls something with every node of a program.
func every(n *api.Node, do func(n *api.Node)) {
	do(n)
	for i := range n.Kids {
		every(&n.Kids[i], do)
	}
}

// short is what of an array is worth telling.
func short(a api.Arr) api.Arr {
	return api.Arr{Shape: a.Shape, Cells: a.Cells[:min(len(a.Cells), 20)]}
}
