package apl_test

import (
	"regexp"
	"slices"
	"strings"

	"triglyph/alex"
	"triglyph/api"
	"triglyph/core"
	"triglyph/grammar"
	"triglyph/spell"
)

// origins is the words, a letter each, that say from where a text counts, as far as they stand there.
var origins = regexp.MustCompile(`^I(?:S(?:[01](?:D)?)?)?`)

// itsGrammar is made once: it is asked a million times.
var itsGrammar = wanted()

// letter is a word as a letter, by what it is at a text's beginning.
func letter(w api.Token) string {
	switch {
	case w.Kind == api.TName && w.Text == "⎕IO":
		return "I"
	case w.Kind == api.TName && core.Name(w.Text):
		return "N"
	case w.Kind == api.TSet:
		return "S"
	case w.Kind == api.TSign && w.Text == "⋄":
		return "D"
	case w.Kind == api.TNum && (sayLit(w.Lit) == "0" || sayLit(w.Lit) == "1"):
		return sayLit(w.Lit)
	}
	return "_"
}

// plainly is what 17.2 says of a text, said another way: its words are letters, and what stands at the beginning is a pattern.
func plainly(s string) string {
	words, f := alex.Lex(s)
	if f != (api.Fault{}) {
		return sayFault(f)
	}
	letters := ""
	for _, w := range words[:min(len(words), 6)] {
		letters += letter(w)
	}
	p, next := api.Program{Origin: 1}, 0
	if m := origins.FindString(letters); m != "" {
		next = len(m)
		if next < 4 {
			return sayFault(api.Fault{Err: api.ErrSyntax, At: placeOf(words, next, len(s))})
		}
		p.Origin = strings.Index("01", m[2:3])
	}
	if strings.HasPrefix(letters[next:], "NS") {
		p.Set = words[next].Text
		next += 2
	}
	if p.Expr, f = grammar.Parse(itsGrammar, words[next:], len(s)); f != (api.Fault{}) {
		return sayFault(f)
	}
	return sayProgram(p)
}

// placeOf is where a word begins, or where the text ends.
func placeOf(words []api.Token, i, end int) int {
	if i < len(words) {
		return words[i].At
	}
	return end
}

// ahead is what is printed ahead of a program's expression.
func ahead(p api.Program) string {
	return map[int]string{0: "⎕IO ← 0 ⋄ "}[p.Origin] + strings.TrimPrefix(p.Set+" ← ", " ← ")
}

// plainText is what 17.3 says of a program, said another way: which expressions a text can be is told by what they are, and nothing is read again.
func plainText(p api.Program) string {
	if p.Origin*(p.Origin-1) != 0 || p.Set != "" && !core.Name(p.Set) || !isExpression(p.Expr, 1, "") || count(p.Expr) > 2048 {
		return "error"
	}
	s, e := spell.Write(itsGrammar, p.Expr)
	if e != api.OK {
		return "!not written"
	}
	s = ahead(p) + s
	// Nothing but its length makes it no text.
	if _, f := alex.Lex(s); f.Err == api.ErrLong {
		return "error"
	}
	return s
}

// can tells whether a program can be a text.
func can(p api.Program) bool { return plainText(p) != "error" }

// count is how many nodes there are.
func count(n api.Node) int {
	many := 1
	for _, part := range n.Kids {
		many += count(part)
	}
	return many
}

// isExpression tells whether a node is an expression that a text can say so deep, where such arguments may be named.
func isExpression(n api.Node, deep int, may string) bool {
	switch {
	case deep > 24:
		return false
	case n.Kind == api.NMo:
		return isOnly(n, 2) && isCalled(n.Kids[0], deep+1, false) && isExpression(n.Kids[1], deep+1, may)
	case n.Kind == api.NDy:
		return isOnly(n, 3) && isCalled(n.Kids[0], deep+1, true) && isOperand(n.Kids[1], deep, may) && isExpression(n.Kids[2], deep+1, may)
	}
	return isOperand(n, deep, may)
}

// isOperand: likewise, of an operand in an expression that lies so deep.
func isOperand(n api.Node, deep int, may string) bool {
	switch n.Kind {
	case api.NLit:
		return isOnly(n, 0) && core.Literal(n.Lit)
	case api.NVar:
		return isOnly(n, 0) && core.Name(n.Name)
	case api.NLeft:
		return isOnly(n, 0) && strings.Contains(may, "L")
	case api.NRight:
		return isOnly(n, 0) && strings.Contains(may, "R")
	case api.NIndex:
		return isOnly(n, 2) && isOperand(n.Kids[0], deep, may) && isExpression(n.Kids[1], deep+1, may)
	case api.NMo, api.NDy:
		return isExpression(n, deep+1, may)
	}
	return false
}

// isCalled: likewise, of a function with something behind it.
func isCalled(n api.Node, deep int, behind bool) bool {
	if n.Kind == api.NPow {
		return deep <= 24 && isFunction(n, deep+1, behind)
	}
	return isFunction(n, deep, behind)
}

// isFunction: likewise, of a function, behind an operand or not.
func isFunction(n api.Node, deep int, behind bool) bool {
	g := itsGrammar
	if deep > 24 {
		return false
	}
	switch n.Kind {
	case api.NPrim:
		return isOnly(n, 0) && (slices.Contains(g.Verbs, n.Name) || behind && slices.Contains(g.Behind, n.Name))
	case api.NAdv:
		return isOnly(n, 1) && slices.Contains(g.Adverbs, n.Name) && isFunction(n.Kids[0], deep, behind)
	case api.NPow:
		return isOnly(n, 1) && n.Op >= 0 && n.Op <= 4096 && isFunction(n.Kids[0], deep, behind)
	case api.NOuter:
		if !isOnly(n, 1) {
			return false
		}
		if slices.Contains([]int{api.NAdv, api.NPow, api.NOuter}, n.Kids[0].Kind) {
			deep++
		}
		return isFunction(n.Kids[0], deep, false)
	case api.NLam1:
		return isOnly(n, 1) && isExpression(n.Kids[0], deep+1, "R")
	case api.NLam2:
		return isOnly(n, 1) && isExpression(n.Kids[0], deep+1, "LR") && names(n.Kids[0], api.NLeft) && names(n.Kids[0], api.NRight)
	}
	return false
}

// names tells whether an expression names an argument, be it not in a text of a function within it.
func names(n api.Node, argument int) bool {
	if n.Kind == api.NLam1 || n.Kind == api.NLam2 {
		return false
	}
	return n.Kind == argument || slices.ContainsFunc(n.Kids, func(part api.Node) bool { return names(part, argument) })
}

// isOnly tells whether a node has so many parts, and nothing that its kind does not name.
func isOnly(n api.Node, parts int) bool {
	k := tellings[n.Kind]
	return len(n.Kids) == parts && (k.op || n.Op == 0) && (k.name || n.Name == "") && (k.lit || len(n.Lit.Shape)+len(n.Lit.Cells) == 0)
}
