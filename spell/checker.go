package spell

import (
	"triglyph/api"
	"triglyph/core"
)

// What must stand in a place.
const (
	expression = 'x'
	function   = 'f'
)

// checker looks whether a program can be written, and counts its nodes. It ends at the first node that can't be: so it takes no longer for a program that is too great.
type checker struct {
	lone  bool
	nodes int
}

// fits tells whether a node can be written where an expression, or a function, must stand, as a part of a node of a kind.
func (c *checker) fits(n api.Node, must byte, whole int) bool {
	c.nodes++
	parts, known := partsOf(n.Kind)
	if c.nodes > api.MaxTokens || !known || must != standsAs(n.Kind) || len(n.Kids) != len(parts) {
		return false
	}
	if !c.isRight(n, whole) {
		return false
	}
	for i, part := range n.Kids {
		if !c.fits(part, parts[i], n.Kind) {
			return false
		}
	}
	return true
}

// isRight tells whether what a node says beside its parts can be written.
func (c *checker) isRight(n api.Node, whole int) bool {
	switch n.Kind {
	case api.NLit:
		return core.Literal(n.Lit)
	case api.NPow:
		// Where the number stands as an operand ahead, it is a number as any other.
		return n.Op >= 0 || c.lone && whole == api.NMo
	}
	return true
}

// standsAs is what a node of a kind is.
func standsAs(kind int) byte {
	if kind >= api.NPrim {
		return function
	}
	return expression
}

// partsOf is what the parts of a node of a kind are, one by one; false, if there is no such kind.
func partsOf(kind int) (string, bool) {
	switch kind {
	case api.NLit, api.NVar, api.NLeft, api.NRight, api.NPrim:
		return "", true
	case api.NLam1, api.NLam2:
		return "x", true
	case api.NAdv, api.NOuter, api.NPow:
		return "f", true
	case api.NMo:
		return "fx", true
	case api.NIndex:
		return "xx", true
	case api.NHook:
		return "ff", true
	case api.NDy:
		return "fxx", true
	case api.NFork:
		return "fff", true
	}
	return "", false
}
