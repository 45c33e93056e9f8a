package jay

import (
	"slices"

	"triglyph/api"
)

// head is what a program says beside its expression.
type head struct {
	set    string
	origin int
}

// part is what a node says by itself, but for where it begins.
type part struct {
	kind, op int
	name     string
}

// value is what a literal's cell says, but for what is in its boxes.
type value struct {
	kind  int
	n     int64
	boxes int
}

// isSame tells whether two programs are the same, the first of which was read from a text; where their nodes begin plays no part.
func isSame(read, other api.Program) bool {
	return headOf(read) == headOf(other) && isSameNode(read.Expr, other.Expr)
}

func headOf(p api.Program) head { return head{set: p.Set, origin: p.Origin} }

func isSameNode(read, other api.Node) bool {
	return partOf(read) == partOf(other) &&
		slices.Equal(read.Lit.Shape, other.Lit.Shape) &&
		slices.EqualFunc(read.Lit.Cells, other.Lit.Cells, isSameCell) &&
		slices.EqualFunc(read.Kids, other.Kids, isSameNode)
}

func partOf(n api.Node) part { return part{kind: n.Kind, op: n.Op, name: n.Name} }

// isSameCell need not look into boxes: what was read has none.
func isSameCell(read, other api.Cell) bool { return valueOf(read) == valueOf(other) }

func valueOf(c api.Cell) value { return value{kind: c.Kind, n: c.N, boxes: len(c.Box)} }
