package spell

import (
	"strings"

	"triglyph/api"
)

// The words that are the same in every grammar.
const (
	blank       = " "
	roundOpen   = "("
	roundClose  = ")"
	squareOpen  = "["
	squareClose = "]"
	repeat      = "/" // behind a function that a number ahead lets be done so often
)

// writer writes a program that can be written, word by word. right is what the right argument is called where it writes.
type writer struct {
	grammar api.Grammar
	right   string
	begun   bool // whether a word stands there: the text does not tell, since a first word may be empty
	text    strings.Builder
}

// put writes words, each with a blank ahead of it, if another one stands there.
func (w *writer) put(words ...string) {
	for _, word := range words {
		if w.begun {
			w.glue(blank)
		}
		w.glue(word)
		w.begun = true
	}
}

// glue writes pieces right behind what stands there.
func (w *writer) glue(pieces ...string) {
	for _, piece := range pieces {
		w.text.WriteString(piece)
	}
}

// number is a number as the grammar writes it.
func (w *writer) number(n int) string { return Number(int64(n), w.grammar.Minus) }

// expression writes an expression.
func (w *writer) expression(n api.Node) {
	switch n.Kind {
	case api.NMo:
		w.ofOne(n.Kids[0])
		w.expression(n.Kids[1])
	case api.NDy:
		w.operand(n.Kids[1])
		w.ahead(n.Kids[0])
		w.expression(n.Kids[2])
	default:
		w.operand(n)
	}
}

// ofOne writes a function ahead of its one argument.
func (w *writer) ofOne(f api.Node) {
	if !w.grammar.Lone || f.Kind != api.NPow {
		w.ahead(f)
		return
	}
	w.put(w.number(f.Op))
	w.function(f.Kids[0])
	w.glue(repeat)
}

// ahead writes a function ahead of an expression.
func (w *writer) ahead(f api.Node) {
	// A number behind how often would be read together with it.
	if f.Kind == api.NPow {
		w.inBrackets(f, w.function)
		return
	}
	w.function(f)
}

// inBrackets writes something between round brackets.
func (w *writer) inBrackets(n api.Node, write func(n api.Node)) {
	w.put(roundOpen)
	write(n)
	w.put(roundClose)
}

// operand writes an operand.
func (w *writer) operand(n api.Node) {
	switch n.Kind {
	case api.NLit:
		w.put(literal(n.Lit, w.grammar))
	case api.NVar:
		w.put(n.Name)
	case api.NLeft:
		w.put(w.grammar.Left)
	case api.NRight:
		w.put(w.right)
	case api.NIndex:
		w.operand(n.Kids[0])
		w.put(squareOpen)
		w.expression(n.Kids[1])
		w.put(squareClose)
	default:
		w.inBrackets(n, w.expression)
	}
}

// function writes a function.
func (w *writer) function(n api.Node) {
	switch n.Kind {
	case api.NPrim:
		w.put(n.Name)
	case api.NLam1, api.NLam2:
		w.lambda(n)
	case api.NAdv:
		w.function(n.Kids[0])
		w.glue(n.Name)
	case api.NPow:
		w.function(n.Kids[0])
		w.glue(w.grammar.Power, w.number(n.Op))
	case api.NOuter:
		w.outer(n.Kids[0])
	default:
		w.train(n.Kids)
	}
}

// lambda writes a function by its text.
func (w *writer) lambda(f api.Node) {
	// The text about this one has a right argument of its own.
	about := w.right
	w.right = w.grammar.Right
	if f.Kind == api.NLam1 && w.grammar.Lone {
		w.right = w.grammar.Left
	}
	w.put(w.grammar.Open)
	w.expression(f.Kids[0])
	w.put(w.grammar.Close)
	w.right = about
}

// outer writes a function for each with each.
func (w *writer) outer(part api.Node) {
	w.put(w.grammar.Outer)
	switch part.Kind {
	case api.NAdv, api.NOuter, api.NPow:
		// What stands about that one would be read as standing about the whole.
		w.inBrackets(part, w.function)
	default:
		w.function(part)
	}
}

// train writes functions alone in brackets.
func (w *writer) train(parts []api.Node) {
	w.put(roundOpen)
	for _, part := range parts {
		w.function(part)
	}
	w.put(roundClose)
}
