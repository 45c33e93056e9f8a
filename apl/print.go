package apl

import (
	"triglyph/api"
	"triglyph/core"
)

// The words ahead of an expression, as they are printed.
const (
	setWord  = " ← "
	fromZero = originName + setWord + "0 " + lineEnd + " "
)

// isHeaded tells whether there are words for what stands ahead of a program's expression.
func isHeaded(p api.Program) bool {
	return (p.Set == "" || core.Name(p.Set)) && (p.Origin == 0 || p.Origin == 1)
}

// heading is what stands ahead of a program's expression.
func heading(p api.Program) string {
	text := ""
	if p.Origin == 0 {
		text = fromZero
	}
	if p.Set != "" {
		text += p.Set + setWord
	}
	return text
}

// room is how many nodes, and how many bytes, a text may still have.
type room struct {
	nodes, bytes int
}

// isShort tells whether an expression's text can be as short as a text must be. Where it can't, it is not even written: nodes may share their parts, so that their text would take more memory than there is.
func isShort(n api.Node) bool {
	r := room{nodes: api.MaxTokens, bytes: api.MaxText}
	return r.holds(n)
}

// holds takes room for a node and all its parts, as little as their text can have: a byte for each byte of a name and for each cell. It ends where no room is left.
func (r *room) holds(n api.Node) bool {
	r.nodes--
	r.bytes -= len(n.Name) + len(n.Lit.Cells)
	if r.nodes < 0 || r.bytes < 0 {
		return false
	}
	for _, part := range n.Kids {
		if !r.holds(part) {
			return false
		}
	}
	return true
}
