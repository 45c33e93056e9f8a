package alex

import (
	"strings"

	"triglyph/api"
	"triglyph/runes"
)

// signs are those of functions, and those that stand beside functions and lines.
const signs = "+-×|~⍳⍴≢,⊖⌽⍉⍋⍒∪⊂⊃÷⌊⌈=≠<>≤≥↑↓⍪∊⌿/\\⍀⌷⍨⍣⋄"

// row is a kind, and words of it that are always the same.
type row struct {
	kind  int
	words string
}

// ofOne has the words of one sign each, kind by kind.
var ofOne = [5]row{
	{api.TName, "⍺⍵"},
	{api.TSet, "←"},
	{api.TOpen, "({["},
	{api.TClose, ")}]"},
	{api.TSign, signs},
}

// ofMore has the words of more signs, each in a row of its own.
var ofMore = [2]row{
	{api.TName, "⎕IO"},
	{api.TSign, "∘."},
}

// same is the kind of the word that is always the same with which bytes begin, and how many bytes it has; 0: there is none.
func same(b []byte) (int, int) {
	for _, r := range ofMore {
		if begins(b, r.words) {
			return r.kind, len(r.words)
		}
	}
	_, size := runes.One(b)
	// No bytes at all would be found in every row.
	if size == 0 {
		return 0, 0
	}
	for _, r := range ofOne {
		if strings.Contains(r.words, string(b[:size])) {
			return r.kind, size
		}
	}
	return 0, 0
}
