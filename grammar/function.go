package grammar

import "triglyph/api"

// repeat is the sign behind a function that, of a grammar that is Lone, lets the number ahead of it say how often it is done.
const repeat = "/"

// function reads a function that lies so deep. It is known already that one begins there, so what stands ahead of it plays no part any more.
func (r *reader) function(deep int) api.Node {
	r.enter(deep)
	first := r.place()
	outer := r.isOuter(r.at)
	if outer {
		r.at++
	}
	f := r.stemmed(deep)
	if outer {
		f = api.Node{Kind: api.NOuter, Kids: []api.Node{f}, At: first}
	}
	return r.adverbs(f, first)
}

// adverbs reads what stands behind a function whose first word begins at a place.
func (r *reader) adverbs(f api.Node, first int) api.Node {
	for {
		switch {
		case r.isSignOf(r.at, r.grammar.Adverbs):
			f = api.Node{Kind: api.NAdv, Name: r.words[r.at].Text, Kids: []api.Node{f}, At: first}
			r.at++
		case r.isPower(r.at):
			times, _ := often(r.words[r.at+1].Lit)
			f = api.Node{Kind: api.NPow, Op: times, Kids: []api.Node{f}, At: first}
			r.at += 2
		default:
			return f
		}
	}
}

// stemmed reads a function without what stands about it.
func (r *reader) stemmed(deep int) api.Node {
	if r.isText(r.at) {
		return r.text(deep)
	}
	if r.is(r.at, api.TOpen, roundOpen) {
		return r.train(deep)
	}
	n := api.Node{Kind: api.NPrim, Name: r.words[r.at].Text, At: r.place()}
	r.at++
	return n
}

// train reads functions alone in brackets.
func (r *reader) train(deep int) api.Node {
	first := r.place()
	r.at++
	var parts []api.Node
	for !r.isOver() {
		parts = append(parts, r.function(deep+1))
	}
	r.at++
	switch len(parts) {
	case 1:
		return parts[0]
	case 2:
		return api.Node{Kind: api.NHook, Kids: parts, At: first}
	}
	return api.Node{Kind: api.NFork, Kids: parts, At: first}
}

// text reads a function's text.
func (r *reader) text(deep int) api.Node {
	first := r.place()
	r.at++
	named := arguments{}
	part := r.expression(deep+1, &named)
	r.close(r.grammar.Close)
	if named.left && named.right {
		return api.Node{Kind: api.NLam2, Kids: []api.Node{part}, At: first}
	}
	// An argument that is alone has the left one's name just where the grammar is Lone.
	if named.left != named.right && named.left != r.grammar.Lone {
		throw(api.ErrSyntax, first)
	}
	alone := []api.Node{part}
	if named.left {
		renameLeft(alone)
	}
	return api.Node{Kind: api.NLam1, Kids: alone, At: first}
}

// renameLeft makes all left arguments right ones, but in texts of functions: theirs are others.
func renameLeft(parts []api.Node) {
	// No recursion: brackets behind an operand make nodes that lie as deep as there are words.
	work := [][]api.Node{parts}
	for len(work) > 0 {
		parts, work = work[len(work)-1], work[:len(work)-1]
		for i := range parts {
			switch parts[i].Kind {
			case api.NLeft:
				parts[i].Kind = api.NRight
			case api.NLam1, api.NLam2:
			default:
				work = append(work, parts[i].Kids)
			}
		}
	}
}

// isRepeated tells whether an operand stands ahead of a function to say how often that is done.
func (r *reader) isRepeated(x, f api.Node) bool {
	return r.grammar.Lone && x.Kind == api.NLit && f.Kind == api.NAdv && f.Name == repeat && f.Kids[0].Kind == api.NLam1
}

// repeated is a function done as often as an operand says.
func repeated(x, f api.Node) api.Node {
	times, says := often(x.Lit)
	if !says {
		throw(api.ErrSyntax, f.At)
	}
	return api.Node{Kind: api.NPow, Op: times, Kids: f.Kids, At: f.At}
}
