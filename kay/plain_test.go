package kay_test

import (
	"slices"
	"strings"

	"triglyph/api"
	"triglyph/core"
	"triglyph/grammar"
	"triglyph/klex"
	"triglyph/spell"
)

// itsGrammar is made once: it is asked a million times.
var itsGrammar = wanted()

// plainly is what 19.2 says of a text, said another way: where a : stands second, behind a name, what is behind it is a program by itself, with a bracket in place of what is ahead, and that left out.
func plainly(s string) string {
	words, f := klex.Lex(s)
	if f != (api.Fault{}) {
		return sayFault(f)
	}
	var p api.Program
	if first, behind, is := strings.Cut(s, ":"); is && core.Name(strings.Trim(first, " ")) {
		p.Set = strings.Trim(first, " ")
		// No blank: that would make a remark of what is none.
		words, _ = klex.Lex(strings.Repeat(" ", len(first)) + "(" + behind)
		words = words[1:]
	}
	if p.Expr, f = grammar.Parse(itsGrammar, words, len(s)); f != (api.Fault{}) {
		return sayFault(f)
	}
	return sayProgram(p)
}

// plainText is what 19.3 says of a program, said another way: which expressions a text can be is told by what they are, and nothing is read again.
func plainText(p api.Program) string {
	if p.Origin != 0 || p.Set != "" && !core.Name(p.Set) || !isExpression(p.Expr, 1, "") || count(p.Expr) > 2048 {
		return "error"
	}
	s, e := spell.Write(itsGrammar, p.Expr)
	if e != api.OK {
		return "!not written"
	}
	s = strings.TrimPrefix(p.Set+" : ", " : ") + s
	// Nothing but its length makes it no text.
	if _, f := klex.Lex(s); f.Err == api.ErrLong {
		return "error"
	}
	return s
}

// can tells whether a program can be a text.
func can(p api.Program) bool { return plainText(p) != "error" }

// count is how many nodes there are.
func count(n api.Node) int {
	many := 1
	for _, part := range n.Kids {
		many += count(part)
	}
	return many
}

// isExpression tells whether a node is an expression that a text can say so deep, where such arguments may be named.
func isExpression(n api.Node, deep int, may string) bool {
	switch {
	case deep > 24:
		return false
	case n.Kind == api.NMo:
		return isOnly(n, 2) && isOfOne(n.Kids[0], deep+1) && isExpression(n.Kids[1], deep+1, may)
	case n.Kind == api.NDy:
		return isOnly(n, 3) && isFunction(n.Kids[0], deep+1) && isOperand(n.Kids[1], deep, may) && isExpression(n.Kids[2], deep+1, may) && !isOften(n.Kids[0], n.Kids[1])
	}
	return isOperand(n, deep, may)
}

// isOperand: likewise, of an operand in an expression that lies so deep.
func isOperand(n api.Node, deep int, may string) bool {
	switch n.Kind {
	case api.NLit:
		return isOnly(n, 0) && core.Literal(n.Lit)
	case api.NVar:
		return isOnly(n, 0) && core.Name(n.Name)
	case api.NLeft:
		return isOnly(n, 0) && strings.Contains(may, "L")
	case api.NRight:
		return isOnly(n, 0) && strings.Contains(may, "R")
	case api.NIndex:
		return isOnly(n, 2) && isOperand(n.Kids[0], deep, may) && isExpression(n.Kids[1], deep+1, may)
	case api.NMo, api.NDy:
		return isExpression(n, deep+1, may)
	}
	return false
}

// isOfOne: likewise, of a function of one argument: it may be done so often.
func isOfOne(n api.Node, deep int) bool {
	if n.Kind == api.NPow {
		return isOnly(n, 1) && 0 <= n.Op && n.Op <= 4096 && n.Kids[0].Kind == api.NLam1 && isFunction(n.Kids[0], deep)
	}
	return isFunction(n, deep)
}

// isOften tells whether a function would be read as one that is done as often as what stands ahead of it says.
func isOften(f, x api.Node) bool {
	return f.Kind == api.NAdv && f.Name == "/" && f.Kids[0].Kind == api.NLam1 && x.Kind == api.NLit
}

// isFunction: likewise, of any other function.
func isFunction(n api.Node, deep int) bool {
	if deep > 24 {
		return false
	}
	switch n.Kind {
	case api.NPrim:
		return isOnly(n, 0) && slices.Contains(itsGrammar.Verbs, n.Name)
	case api.NAdv:
		return isOnly(n, 1) && slices.Contains(itsGrammar.Adverbs, n.Name) && isFunction(n.Kids[0], deep)
	case api.NLam1:
		return isOnly(n, 1) && isExpression(n.Kids[0], deep+1, "R")
	case api.NLam2:
		return isOnly(n, 1) && isExpression(n.Kids[0], deep+1, "LR") && names(n.Kids[0], api.NLeft) && names(n.Kids[0], api.NRight)
	}
	return false
}

// names tells whether an expression names an argument, be it not in a text of a function within it.
func names(n api.Node, argument int) bool {
	if n.Kind == api.NLam1 || n.Kind == api.NLam2 {
		return false
	}
	return n.Kind == argument || slices.ContainsFunc(n.Kids, func(part api.Node) bool { return names(part, argument) })
}

// isOnly tells whether a node has so many parts, and nothing that its kind does not name.
func isOnly(n api.Node, parts int) bool {
	k := tellings[n.Kind]
	return len(n.Kids) == parts && (k.op || n.Op == 0) && (k.name || n.Name == "") && (k.lit || len(n.Lit.Shape)+len(n.Lit.Cells) == 0)
}
