package apl

import (
	"triglyph/api"
	"triglyph/core"
)

// The words at the beginning that say from where a text counts.
const (
	originName = "⎕IO"
	lineEnd    = "⋄"
)

// demand tells whether a word may stand in a place.
type demand func(w api.Token) bool

// isOf demands a word of a kind.
func isOf(kind int) demand {
	return func(w api.Token) bool { return w.Kind == kind }
}

// says demands a word of a kind with a text.
func says(kind int, text string) demand {
	return func(w api.Token) bool { return w.Kind == kind && w.Text == text }
}

// isFrom demands an atom between two numbers.
func isFrom(least, most int64) demand {
	return func(w api.Token) bool {
		return w.Kind == api.TNum && len(w.Lit.Shape) == 0 && least <= number(w) && number(w) <= most
	}
}

// isName demands a name that a value can have: an argument and ⎕IO are words of that kind, too.
func isName() demand {
	return func(w api.Token) bool { return w.Kind == api.TName && core.Name(w.Text) }
}

// number is the number of a word that is an atom.
func number(w api.Token) int64 { return w.Lit.Cells[0].N }

// met is how many of the first words are as it is demanded, word by word.
func met(words []api.Token, demands ...demand) int {
	for i, fits := range demands {
		if i == len(words) || !fits(words[i]) {
			return i
		}
	}
	return len(demands)
}

// readOrigin is from where a text counts, and the words behind what says that. The text ends at end.
func readOrigin(words []api.Token, end int) (int, []api.Token, api.Fault) {
	demands := [...]demand{says(api.TName, originName), isOf(api.TSet), isFrom(0, 1), says(api.TSign, lineEnd)}
	switch many := met(words, demands[:]...); many {
	case 0:
		return 1, words, api.Fault{}
	case len(demands):
		return int(number(words[2])), words[many:], api.Fault{}
	case len(words):
		return 0, nil, api.Fault{Err: api.ErrSyntax, At: end}
	default:
		return 0, nil, api.Fault{Err: api.ErrSyntax, At: words[many].At}
	}
}

// readSet is which name is set, if one is, and the words behind what says that.
func readSet(words []api.Token) (string, []api.Token) {
	if met(words, isName(), isOf(api.TSet)) < 2 {
		return "", words
	}
	return words[0].Text, words[2:]
}
