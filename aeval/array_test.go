package aeval_test

import (
	"math"
	"slices"

	"triglyph/api"
	"triglyph/arr"
)

const (
	least = math.MinInt
	most  = math.MaxInt
	full  = api.MaxCells
)

// number, sign and box are cells that may be.
func number(n int64) api.Cell { return api.Cell{Kind: api.CInt, N: n} }
func sign(n int64) api.Cell   { return api.Cell{Kind: api.CChar, N: n} }
func box(a api.Arr) api.Cell  { return api.Cell{Kind: api.CBox, Box: []api.Arr{a}} }

// atom, list, with, of, num, nums and text are arrays of cells.
func atom(c api.Cell) api.Arr                 { return api.Arr{Cells: []api.Cell{c}} }
func list(c ...api.Cell) api.Arr              { return api.Arr{Shape: []int{len(c)}, Cells: c} }
func with(shape []int, c ...api.Cell) api.Arr { return api.Arr{Shape: shape, Cells: c} }
func of(shape []int, l ...int64) api.Arr      { return with(shape, arr.Nums(l).Cells...) }
func num(n int64) api.Arr                     { return arr.Atom(n) }
func nums(l ...int64) api.Arr                 { return arr.Nums(l) }
func text(s string) api.Arr {
	out := api.Arr{Shape: []int{len(s)}}
	for _, r := range s {
		out.Cells = append(out.Cells, sign(int64(r)))
	}
	return out
}

// boxes is an array within so many boxes.
func boxes(many int, within api.Arr) api.Arr {
	for range many {
		within = atom(box(within))
	}
	return within
}

// filled is an array of a shape, the numbers from 0 on.
func filled(shape ...int) api.Arr {
	size, _ := arr.Size(shape)
	out := api.Arr{Shape: shape}
	for i := range size {
		out.Cells = append(out.Cells, number(int64(i)))
	}
	return out
}

// bothKinds is a list of a box and a number: four cells in all.
func bothKinds() api.Arr { return list(box(nums(1, 2)), number(1)) }

// table is two rows of three.
func table() api.Arr { return of([]int{2, 3}, 1, 2, 3, 4, 5, 6) }

// names are some with values; none has the name none, and that of wrong may not be.
func names() api.Env {
	return api.Env{
		Names: []string{"a", "b", "c", "cols", "deep", "rows", "tab", "wrong"},
		Vals:  []api.Arr{nums(1, 2, 3), bothKinds(), text("abc"), with([]int{5, 0}), boxes(api.MaxDeep, num(1)), with([]int{0, 5}), table(), with([]int{2}, number(1))},
	}
}

// one has a value by the name a alone, two another one by the name b as well.
func one(x api.Arr) api.Env    { return api.Env{Names: []string{"a"}, Vals: []api.Arr{x}} }
func two(x, y api.Arr) api.Env { return api.Env{Names: []string{"a", "b"}, Vals: []api.Arr{x, y}} }

// arrays are such as may be, of each kind of cells, and of several ranks and lengths.
func arrays() []api.Arr {
	return []api.Arr{
		num(0), num(1), num(-1), num(2), num(3), num(math.MinInt64), num(math.MaxInt64), num(full + 1), nums(), nums(1), nums(0, 1), nums(2, 0), nums(3, 1, 2, 1), nums(1, 2, 3),
		atom(sign(97)), text("abc"), text(""), table(), of([]int{2, 2}, 1, 2, 2, 1), with([]int{0, 3}), with([]int{3, 0}), of([]int{1, 1, 1, 1, 1, 1, 1, 2}, 1, 2),
		atom(box(nums(1, 2))), bothKinds(), list(box(nums(1, 2)), box(nums(1, 2))), boxes(api.MaxDeep, num(1)), list(number(1), sign(97)),
	}
}

// alike, alikeCell and alikeNode: the same fields all the way down; nil and nothing are alike.
func alike(a, b api.Arr) bool {
	return slices.Equal(a.Shape, b.Shape) && slices.EqualFunc(a.Cells, b.Cells, alikeCell)
}

func alikeCell(a, b api.Cell) bool {
	return a.Kind == b.Kind && a.N == b.N && slices.EqualFunc(a.Box, b.Box, alike)
}

func alikeNode(a, b api.Node) bool {
	return a.Kind == b.Kind && a.Op == b.Op && a.Name == b.Name && a.At == b.At &&
		alike(a.Lit, b.Lit) && slices.EqualFunc(a.Kids, b.Kids, alikeNode)
}

func alikeEnv(a, b api.Env) bool {
	return slices.Equal(a.Names, b.Names) && slices.EqualFunc(a.Vals, b.Vals, alike)
}

// copyArr, copyNode and copyEnv are any of these, that may be or not, in new memory.
func copyArr(a api.Arr) api.Arr {
	out := api.Arr{Shape: slices.Clone(a.Shape), Cells: slices.Clone(a.Cells)}
	for i, c := range out.Cells {
		out.Cells[i].Box = slices.Clone(c.Box)
		for j, within := range c.Box {
			out.Cells[i].Box[j] = copyArr(within)
		}
	}
	return out
}

func copyNode(n api.Node) api.Node {
	n.Lit = copyArr(n.Lit)
	n.Kids = slices.Clone(n.Kids)
	for i, part := range n.Kids {
		n.Kids[i] = copyNode(part)
	}
	return n
}

func copyEnv(env api.Env) api.Env {
	out := api.Env{Names: slices.Clone(env.Names), Vals: slices.Clone(env.Vals)}
	for i, a := range out.Vals {
		out.Vals[i] = copyArr(a)
	}
	return out
}

// every calls something with every node of a program.
func every(n *api.Node, do func(n *api.Node)) {
	do(n)
	for i := range n.Kids {
		every(&n.Kids[i], do)
	}
}

// cellsOf is how many cells there are: all of its own, and those of all that lies in them.
func cellsOf(a api.Arr) int {
	n, waiting := 0, []api.Arr{a}
	for len(waiting) > 0 {
		last := waiting[len(waiting)-1]
		waiting = waiting[:len(waiting)-1]
		for _, c := range last.Cells {
			n++
			waiting = append(waiting, c.Box...)
		}
	}
	return n
}

// short is what of an array is worth telling.
func short(a api.Arr) api.Arr {
	return api.Arr{Shape: a.Shape, Cells: a.Cells[:min(len(a.Cells), 20)]}
}
