package grammar

import "triglyph/api"

// mostInTrain is how many functions a train has at most.
const mostInTrain = 3

// spans tells of each word, and of the end, which word stands behind what begins there; 0, where nothing begins: that word stands behind none.
type spans struct {
	sentence
	closed []int // behind the word that closes one that opens
	tails  []int // behind the signs that may stand behind a function; where there are none, the word itself
	alone  []int // behind a function
	behind []int // behind a function that stands behind an operand
}

// measure looks at all words. It goes from the right, since how far a function goes hangs on what begins behind its first word: so nothing is looked at again and again, however deep it lies.
func measure(s sentence) spans {
	many := len(s.words) + 1
	m := spans{sentence: s, closed: closers(s.words), tails: make([]int, many), alone: make([]int, many), behind: make([]int, many)}
	for at := many - 1; at >= 0; at-- {
		m.tails[at] = m.tail(at)
		m.alone[at] = m.whole(at, false)
		m.behind[at] = m.whole(at, true)
	}
	return m
}

// closers is, of each word that opens, which word stands behind the one that closes it, whatever they are.
func closers(words []api.Token) []int {
	out := make([]int, len(words))
	var open []int
	for at, word := range words {
		switch last := len(open) - 1; {
		case word.Kind == api.TOpen:
			open = append(open, at)
		case word.Kind == api.TClose && last >= 0:
			out[open[last]] = at + 1
			open = open[:last]
		}
	}
	return out
}

// functions is, of each word, which one stands behind the function that begins there, behind an operand or not.
func (s *spans) functions(behind bool) []int {
	if behind {
		return s.behind
	}
	return s.alone
}

// tail goes through the signs that may stand behind a function.
func (s *spans) tail(at int) int {
	switch {
	case s.isSignOf(at, s.grammar.Adverbs):
		return s.tails[at+1]
	case s.isPower(at):
		return s.tails[at+2]
	}
	return at
}

// whole goes through a function with what stands about it.
func (s *spans) whole(at int, behind bool) int {
	if s.isOuter(at) {
		return s.tails[s.stem(at+1, false)]
	}
	if next := s.stem(at, behind); next > 0 {
		return s.tails[next]
	}
	return 0
}

// isOuter tells whether a word is Outer with a function behind it. That one stands behind Outer, so it is not behind an operand.
func (s *spans) isOuter(at int) bool {
	return s.is(at, api.TSign, s.grammar.Outer) && s.stem(at+1, false) > 0
}

// stem goes through a function without what stands about it.
func (s *spans) stem(at int, behind bool) int {
	switch {
	case s.isSignOf(at, s.grammar.Verbs), behind && s.isSignOf(at, s.grammar.Behind):
		return at + 1
	case s.isText(at):
		return s.closed[at]
	case s.is(at, api.TOpen, roundOpen):
		return s.bracket(at, behind)
	}
	return 0
}

// isText tells whether a word opens a function's text.
func (s *spans) isText(at int) bool { return s.is(at, api.TOpen, s.grammar.Open) }

// bracket goes through functions alone in brackets.
func (s *spans) bracket(at int, behind bool) int {
	most := 1
	if s.grammar.Trains {
		most = mostInTrain
	}
	functions, next, many := s.functions(behind), at+1, 0
	for many < most && functions[next] > 0 {
		next = functions[next]
		many++
	}
	if many == 0 || !s.is(next, api.TClose, roundClose) {
		return 0
	}
	return next + 1
}
