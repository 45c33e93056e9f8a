package grammar

import (
	"slices"

	"triglyph/api"
)

// The words that are brackets in every grammar.
const (
	roundOpen   = "("
	roundClose  = ")"
	squareOpen  = "["
	squareClose = "]"
)

// sentence is words, and the grammar by which they stand.
type sentence struct {
	grammar api.Grammar
	words   []api.Token
}

// is tells whether a word is of a kind and says a text. A word of which the grammar has an empty text there is not.
func (s *sentence) is(at, kind int, text string) bool {
	return at < len(s.words) && s.words[at].Kind == kind && s.words[at].Text == text && text != ""
}

// isSignOf tells whether a word is a sign of a list.
func (s *sentence) isSignOf(at int, list []string) bool {
	return at < len(s.words) && s.is(at, api.TSign, s.words[at].Text) && slices.Contains(list, s.words[at].Text)
}

// isPower tells whether a word is Power with how often behind it.
func (s *sentence) isPower(at int) bool {
	if !s.is(at, api.TSign, s.grammar.Power) || at+1 == len(s.words) || s.words[at+1].Kind != api.TNum {
		return false
	}
	_, says := often(s.words[at+1].Lit)
	return says
}

// often is how often a function is to be done, if an array says that.
func often(a api.Arr) (int, bool) {
	if len(a.Shape) > 0 || len(a.Cells) != 1 {
		return 0, false
	}
	// A text of one sign is an atom, too.
	c := a.Cells[0]
	if c.Kind != api.CInt || c.N < 0 || c.N > api.MaxPower {
		return 0, false
	}
	return int(c.N), true
}
