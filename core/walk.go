package core

import "triglyph/api"

// walk goes through a program and counts its nodes. It ends at the first node that may not be: so it takes no longer for a program that is too great, or lies too deep.
type walk struct {
	nodes int
}

// enter counts a node that lies so deep, and looks at what is asked of every node.
func (w *walk) enter(n api.Node, deep int) bool {
	w.nodes++
	return w.nodes <= api.MaxTokens && deep <= api.MaxNest && len(n.Kids) == parts(n.Kind) && isBare(n)
}

// expression looks at an expression, in a function's text or outside: named counts the arguments that the text names, and is nil outside.
func (w *walk) expression(n api.Node, deep int, named map[int]int) bool {
	if !w.enter(n, deep) {
		return false
	}
	switch n.Kind {
	case api.NLit:
		return Literal(n.Lit)
	case api.NVar:
		return Name(n.Name)
	case api.NLeft, api.NRight:
		if named == nil {
			return false
		}
		named[n.Kind]++
		return true
	case api.NMo:
		return w.one(n.Kids[0], deep+1) && w.expression(n.Kids[1], deep+1, named)
	case api.NDy:
		return w.two(n.Kids[0], deep+1) && w.expression(n.Kids[1], deep+1, named) && w.expression(n.Kids[2], deep+1, named)
	}
	return false
}

// one looks at a function of one argument.
func (w *walk) one(n api.Node, deep int) bool {
	if !w.enter(n, deep) {
		return false
	}
	switch n.Kind {
	case api.NPrim:
		return isFrom(n.Op, api.Neg, api.Recip)
	case api.NLam1:
		return w.text(n, deep)
	case api.NRedF, api.NRedL, api.NScanF, api.NScanL:
		return w.between(n.Kids[0], deep+1)
	case api.NComm:
		return w.turned(n.Kids[0], deep+1)
	case api.NPow:
		part := n.Kids[0]
		return isFrom(n.Op, 0, api.MaxPower) && part.Kind == api.NLam1 && w.one(part, deep+1)
	}
	return false
}

// two looks at a function of two arguments.
func (w *walk) two(n api.Node, deep int) bool {
	switch n.Kind {
	case api.NOuter:
		return w.enter(n, deep) && w.between(n.Kids[0], deep+1)
	case api.NComm:
		return w.enter(n, deep) && w.turned(n.Kids[0], deep+1)
	}
	return w.turnable(n, deep)
}

// turnable looks at a function that may be turned.
func (w *walk) turnable(n api.Node, deep int) bool {
	if !w.enter(n, deep) {
		return false
	}
	switch n.Kind {
	case api.NPrim:
		return Scalar(n.Op) || isFrom(n.Op, api.Reshape, api.Div)
	case api.NLam2:
		return w.text(n, deep)
	}
	return false
}

// turned looks at the part of an NComm.
func (w *walk) turned(n api.Node, deep int) bool {
	// From and At are each other's turned ones already: one way to say a thing is enough.
	if n.Kind == api.NPrim && (n.Op == api.From || n.Op == api.At) {
		return false
	}
	return w.turnable(n, deep)
}

// between looks at a function for between items.
func (w *walk) between(n api.Node, deep int) bool {
	if n.Kind == api.NComm {
		return w.enter(n, deep) && w.scalar(n.Kids[0], deep+1)
	}
	return w.scalar(n, deep)
}

// scalar looks at a primitive that goes cell by cell.
func (w *walk) scalar(n api.Node, deep int) bool {
	return w.enter(n, deep) && n.Kind == api.NPrim && Scalar(n.Op)
}

// text looks at the text of a function that lies so deep, and at which arguments it names.
func (w *walk) text(f api.Node, deep int) bool {
	// A map of its own: what texts about it or within it name are other functions' arguments.
	named := map[int]int{}
	if !w.expression(f.Kids[0], deep+1, named) {
		return false
	}
	if f.Kind == api.NLam1 {
		return named[api.NLeft] == 0
	}
	return named[api.NLeft] > 0 && named[api.NRight] > 0
}

// parts is how many parts a node of a kind has.
func parts(kind int) int {
	switch kind {
	case api.NMo:
		return 2
	case api.NDy:
		return 3
	case api.NLam1, api.NLam2, api.NRedF, api.NRedL, api.NScanF, api.NScanL, api.NComm, api.NOuter, api.NPow:
		return 1
	}
	return 0
}

// isBare tells whether a node has no Op, Name or Lit that its kind does not name.
func isBare(n api.Node) bool {
	return (n.Op == 0 || n.Kind == api.NPrim || n.Kind == api.NPow) &&
		(n.Name == "" || n.Kind == api.NVar) &&
		(isZero(n.Lit) || n.Kind == api.NLit)
}

// isZero tells whether an array is the zero value.
func isZero(a api.Arr) bool { return len(a.Shape) == 0 && len(a.Cells) == 0 }
