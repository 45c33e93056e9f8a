package kay

import (
	"strings"

	"triglyph/api"
	"triglyph/core"
)

// setWord stands behind a name that is set.
const setWord = ":"

// blank stands between two pieces of a text.
const blank = " "

// isHeaded tells whether there are words for what stands ahead of a program's expression: there are none for where counting begins.
func isHeaded(p api.Program) bool {
	return p.Origin == 0 && (p.Set == "" || core.Name(p.Set))
}

// heading is the pieces that stand ahead of a program's expression.
func heading(p api.Program) []string {
	if p.Set == "" {
		return nil
	}
	return []string{p.Set, setWord}
}

// together puts pieces together to one text, with a blank between.
func together(pieces ...string) string {
	var text strings.Builder
	for i, piece := range pieces {
		if i > 0 {
			text.WriteString(blank)
		}
		text.WriteString(piece)
	}
	return text.String()
}

// isShort tells whether an expression's text can be as short as a text must be. Where it can't, it is not even written: nodes may share their parts, so that their text would take more memory than there is.
func isShort(n api.Node) bool {
	return roomBehind(n, api.MaxTokens+api.MaxText) >= 0
}

// roomBehind is how much room is left behind a node with its parts: each node takes one, and as little as its words can have, a byte for each byte of its name and for each cell. It ends where no room is left.
func roomBehind(n api.Node, room int) int {
	room -= 1 + len(n.Name) + len(n.Lit.Cells)
	for i := 0; i < len(n.Kids) && room >= 0; i++ {
		room = roomBehind(n.Kids[i], room)
	}
	return room
}
