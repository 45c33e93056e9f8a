package engine

import (
	"slices"

	"triglyph/api"
	"triglyph/arr"
)

// Sparing is a function that lays cells and looks into no box, done so that a box which is laid in many places has one memory in all of them. A copy for each could take far more than there is room for, ahead of Hold's telling so.
func Sparing(do func(x, y api.Arr) (api.Arr, api.Errno), x, y api.Arr) (api.Arr, api.Errno) {
	// Nobody looks into a box, so its number can stand in it while cells are laid.
	boxes := []api.Cell{}
	x, boxes = numbered(x, boxes)
	y, boxes = numbered(y, boxes)
	out, e := do(x, y)
	for i, c := range out.Cells {
		if c.Kind == api.CBox {
			out.Cells[i] = boxes[c.Box[0].Cells[0].N]
		}
	}
	return out, e
}

// numbered is an array in which each box has its number in it, and the boxes so far with its own behind them.
func numbered(a api.Arr, boxes []api.Cell) (api.Arr, []api.Cell) {
	cells := slices.Clone(a.Cells)
	for i, c := range cells {
		if c.Kind == api.CBox {
			cells[i].Box = []api.Arr{arr.Atom(int64(len(boxes)))}
			boxes = append(boxes, c)
		}
	}
	return api.Arr{Shape: a.Shape, Cells: cells}, boxes
}
