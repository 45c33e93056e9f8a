package grammar_test

import (
	"fmt"
	"slices"
	"strings"

	"triglyph/api"
	"triglyph/core"
)

// found is a node as it is told: what it says, where it begins, and its parts.
type found struct {
	says  string
	at    int
	parts []found
	isLit bool
}

func find(says string, at int, parts ...found) found { return found{says: says, at: at, parts: parts} }

func (f found) String() string {
	var out strings.Builder
	f.tell(&out)
	return out.String()
}

func (f found) tell(out *strings.Builder) {
	fmt.Fprintf(out, "%s@%d", f.says, f.at)
	for i, part := range f.parts {
		out.WriteString([]string{"(", " "}[min(i, 1)])
		part.tell(out)
	}
	if len(f.parts) > 0 {
		out.WriteString(")")
	}
}

// plain says the chapter another way: what is read is found together with how far it goes, nothing is thrown, and the first fault is handed on; which arguments a text names is seen by its words.
type plain struct {
	g     api.Grammar
	words []api.Token
	end   int
}

// names is how a text's arguments are told; nil stands for no text.
type names struct {
	left, right string
}

// plainly is what the chapter says of words.
func plainly(g api.Grammar, words []api.Token, end int) string {
	p := plain{g, words, end}
	out, next, bad := p.expression(0, 1, nil)
	if bad == "" && next < len(words) {
		bad = p.syntax(next)
	}
	if bad != "" {
		return bad
	}
	return out.String()
}

func (p plain) place(i int) int {
	if i < len(p.words) {
		return p.words[i].At
	}
	return p.end
}

func (p plain) syntax(i int) string { return sayFault(api.ErrSyntax, p.place(i)) }
func (p plain) deep(i int) string   { return sayFault(api.ErrDeep, p.place(i)) }

// word is what a word of a kind says; "" of any other.
func (p plain) word(i, kind int) string {
	if i < len(p.words) && p.words[i].Kind == kind {
		return p.words[i].Text
	}
	return ""
}

// isOne tells whether a text is among others, and not empty.
func isOne(text string, others ...string) bool { return text != "" && slices.Contains(others, text) }

// first is the first fault of two.
func first(a, b string) string {
	if a != "" {
		return a
	}
	return b
}

// expression: 15.1.
func (p plain) expression(i, deep int, within *names) (found, int, string) {
	if deep > 24 {
		return found{}, i, p.deep(i)
	}
	if f, next, bad := p.function(i, deep+1, false); next > 0 {
		if bad != "" {
			return found{}, next, bad
		}
		x, next, bad := p.expression(next, deep+1, within)
		return find("mo", f.at, f, x), next, bad
	}
	x, next, bad := p.operand(i, deep, within)
	if bad != "" || next == len(p.words) || p.words[next].Kind == api.TClose {
		return x, next, bad
	}
	f, behind, bad := p.function(next, deep+1, true)
	if behind == 0 {
		bad = p.syntax(next)
	}
	if bad != "" {
		return found{}, next, bad
	}
	if p.g.Lone && f.says == "adv/" && f.parts[0].says == "lam1" && x.isLit {
		f.says = "pow" + x.says
		if !isOften(x.says) {
			return found{}, behind, sayFault(api.ErrSyntax, f.at)
		}
		y, end, bad := p.expression(behind, deep+1, within)
		return find("mo", f.at, f, y), end, bad
	}
	y, end, bad := p.expression(behind, deep+1, within)
	return find("dy", p.place(i), f, x, y), end, bad
}

// isOften tells whether a literal says how often.
func isOften(says string) bool {
	n := 0
	_, err := fmt.Sscanf(says+";", "%d;", &n)
	return err == nil && 0 <= n && n <= 4096
}

// operand: 15.1.
func (p plain) operand(i, deep int, within *names) (found, int, string) {
	out, next, bad := p.bare(i, deep, within)
	for bad == "" && p.g.Square && p.word(next, api.TOpen) == "[" {
		var which found
		which, next, bad = p.bracket(next+1, deep+1, within, "]")
		out = find("index", p.place(i), out, which)
	}
	return out, next, bad
}

// bracket is an expression, and the word that closes it.
func (p plain) bracket(i, deep int, within *names, closes string) (found, int, string) {
	out, next, bad := p.expression(i, deep, within)
	if bad == "" && !isOne(p.word(next, api.TClose), closes) {
		bad = p.syntax(next)
	}
	return out, next + 1, bad
}

func (p plain) bare(i, deep int, within *names) (found, int, string) {
	name := p.word(i, api.TName)
	switch {
	case p.word(i, api.TOpen) == "(":
		return p.bracket(i+1, deep+1, within, ")")
	case i < len(p.words) && (p.words[i].Kind == api.TNum || p.words[i].Kind == api.TText):
		return found{says: sayLit(p.words[i].Lit), at: p.place(i), isLit: true}, i + 1, ""
	case within != nil && isOne(name, p.g.Left):
		return find(within.left, p.place(i)), i + 1, ""
	case within != nil && isOne(name, p.g.Right):
		return find(within.right, p.place(i)), i + 1, ""
	case core.Name(name):
		return find(name, p.place(i)), i + 1, ""
	}
	return found{}, i, p.syntax(i)
}

// function: 15.2; how far it goes, be there a fault in it or not, and 0, if none begins there.
func (p plain) function(i, deep int, behind bool) (found, int, string) {
	out, next, bad := p.stem(i, deep, behind)
	if isOne(p.word(i, api.TSign), p.g.Outer) {
		if part, end, wrong := p.stem(i+1, deep, false); end > 0 {
			out, next, bad = find("outer", p.place(i), part), end, wrong
		}
	}
	if next == 0 {
		return found{}, 0, ""
	}
	for {
		if sign := p.word(next, api.TSign); isOne(sign, p.g.Adverbs...) {
			out = find("adv"+sign, p.place(i), out)
			next++
		} else if isOne(sign, p.g.Power) && next+1 < len(p.words) && p.words[next+1].Kind == api.TNum && isOften(sayLit(p.words[next+1].Lit)) {
			out = find("pow"+sayLit(p.words[next+1].Lit), p.place(i), out)
			next += 2
		} else {
			break
		}
	}
	if deep > 24 {
		bad = p.deep(i)
	}
	return out, next, bad
}

// stem is a function without what stands about it.
func (p plain) stem(i, deep int, behind bool) (found, int, string) {
	sign, open := p.word(i, api.TSign), p.word(i, api.TOpen)
	switch {
	case isOne(sign, p.g.Verbs...), behind && isOne(sign, p.g.Behind...):
		return find(sign, p.place(i)), i + 1, ""
	case isOne(open, p.g.Open):
		return p.text(i, deep)
	case open == "(":
		return p.functions(i, deep, behind)
	}
	return found{}, 0, ""
}

// functions alone in brackets.
func (p plain) functions(i, deep int, behind bool) (found, int, string) {
	var parts []found
	bad, next := "", i+1
	for p.word(next, api.TClose) != ")" {
		part, end, wrong := p.function(next, deep+1, behind)
		if end == 0 || len(parts) == 3 {
			return found{}, 0, ""
		}
		bad, next, parts = first(bad, wrong), end, append(parts, part)
	}
	switch {
	case len(parts) == 1:
		return parts[0], next + 1, bad
	case len(parts) > 1 && p.g.Trains:
		return find([]string{"hook", "fork"}[len(parts)-2], p.place(i), parts...), next + 1, bad
	}
	return found{}, 0, ""
}

// closing is which word closes the one that opens, whatever they are; 0, if none does.
func (p plain) closing(i int) int {
	open := 0
	for at, w := range p.words[i:] {
		switch w.Kind {
		case api.TOpen:
			open++
		case api.TClose:
			open--
		}
		if open == 0 {
			return i + at
		}
	}
	return 0
}

// text: 15.3.
func (p plain) text(i, deep int) (found, int, string) {
	last := p.closing(i)
	if last == 0 {
		return found{}, 0, ""
	}
	left, right := false, false
	for at := i + 1; at < last; at++ {
		left = left || isOne(p.word(at, api.TName), p.g.Left)
		right = right || isOne(p.word(at, api.TName), p.g.Right)
		if isOne(p.word(at, api.TOpen), p.g.Open) {
			at = max(at, p.closing(at))
		}
	}
	says, told := "lam1", &names{"R", "R"}
	if left && right {
		says, told = "lam2", &names{"L", "R"}
	}
	x, _, bad := p.bracket(i+1, deep+1, told, p.g.Close)
	if bad == "" && left != right && left != p.g.Lone {
		bad = p.syntax(i)
	}
	return find(says, p.place(i), x), last + 1, bad
}
