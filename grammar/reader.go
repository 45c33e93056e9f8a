package grammar

import (
	"slices"

	"triglyph/api"
	"triglyph/core"
)

// reader reads words from the left; at is the next one. The first fault is thrown.
type reader struct {
	spans
	at, end int
}

// arguments is which of its arguments a function's text names.
type arguments struct {
	left, right bool
}

// throw throws a fault at a place.
func throw(e api.Errno, at int) { panic(api.Fault{Err: e, At: at}) }

// refuse throws a fault at the next word.
func (r *reader) refuse(e api.Errno) { throw(e, r.place()) }

// place is where the next word begins, or, if there is none, where the text ends.
func (r *reader) place() int {
	if r.at == len(r.words) {
		return r.end
	}
	return r.words[r.at].At
}

// enter looks whether something may lie so deep.
func (r *reader) enter(deep int) {
	if deep > api.MaxNest {
		r.refuse(api.ErrDeep)
	}
}

// begins tells whether a function begins at the next word, behind an operand or not.
func (r *reader) begins(behind bool) bool { return r.functions(behind)[r.at] > 0 }

// isOver tells whether an expression ends ahead of the next word.
func (r *reader) isOver() bool {
	return r.at == len(r.words) || r.words[r.at].Kind == api.TClose
}

// close reads a word that must stand there.
func (r *reader) close(text string) {
	if !r.is(r.at, api.TClose, text) {
		r.refuse(api.ErrSyntax)
	}
	r.at++
}

// expression reads an expression that lies so deep; named is what the function's text about it names, and nil outside of one.
func (r *reader) expression(deep int, named *arguments) api.Node {
	r.enter(deep)
	if r.begins(false) {
		f := r.function(deep + 1)
		return callOfOne(f, r.expression(deep+1, named))
	}
	first := r.place()
	x := r.operand(deep, named)
	if r.isOver() {
		return x
	}
	if !r.begins(true) {
		r.refuse(api.ErrSyntax)
	}
	f := r.function(deep + 1)
	if r.isRepeated(x, f) {
		f = repeated(x, f)
		return callOfOne(f, r.expression(deep+1, named))
	}
	y := r.expression(deep+1, named)
	return api.Node{Kind: api.NDy, Kids: []api.Node{f, x, y}, At: first}
}

// callOfOne is a function of an expression. It begins where the function does, be that behind a bracket.
func callOfOne(f, x api.Node) api.Node {
	return api.Node{Kind: api.NMo, Kids: []api.Node{f, x}, At: f.At}
}

// operand reads an operand in an expression that lies so deep, with the square brackets behind it.
func (r *reader) operand(deep int, named *arguments) api.Node {
	first := r.place()
	n := r.bare(deep, named)
	for r.grammar.Square && r.is(r.at, api.TOpen, squareOpen) {
		r.at++
		which := r.expression(deep+1, named)
		r.close(squareClose)
		n = api.Node{Kind: api.NIndex, Kids: []api.Node{n, which}, At: first}
	}
	return n
}

// bare reads an operand without what stands behind it.
func (r *reader) bare(deep int, named *arguments) api.Node {
	if !r.is(r.at, api.TOpen, roundOpen) {
		n := r.word(named)
		r.at++
		return n
	}
	r.at++
	n := r.expression(deep+1, named)
	r.close(roundClose)
	return n
}

// word is the next word as an operand.
func (r *reader) word(named *arguments) api.Node {
	if r.at == len(r.words) {
		r.refuse(api.ErrSyntax)
	}
	word := r.words[r.at]
	n := api.Node{At: word.At}
	switch {
	case word.Kind == api.TNum, word.Kind == api.TText:
		n.Kind, n.Lit = api.NLit, copied(word.Lit)
	case named != nil && r.is(r.at, api.TName, r.grammar.Left):
		n.Kind, named.left = api.NLeft, true
	case named != nil && r.is(r.at, api.TName, r.grammar.Right):
		n.Kind, named.right = api.NRight, true
	case word.Kind == api.TName && core.Name(word.Text):
		n.Kind, n.Name = api.NVar, word.Text
	default:
		r.refuse(api.ErrSyntax)
	}
	return n
}

// copied is a word's literal in new memory.
func copied(a api.Arr) api.Arr {
	return api.Arr{Shape: slices.Clone(a.Shape), Cells: slices.Clone(a.Cells)}
}
