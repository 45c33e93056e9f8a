package grammar_test

import (
	"fmt"
	"regexp"
	"strings"
	"testing"

	"triglyph/alex"
	"triglyph/api"
	"triglyph/grammar"
	"triglyph/jlex"
	"triglyph/klex"
)

// aplGrammar, jGrammar and kGrammar are those of the dialects, by 17.1, 18.1 and 19.1.
func aplGrammar() api.Grammar {
	return api.Grammar{
		Verbs:   strings.Fields("+ - × | ~ ⍳ ⍴ ≢ , ⊖ ⌽ ⍉ ⍋ ⍒ ∪ ⊂ ⊃ ÷ ⌊ ⌈ = ≠ < > ≤ ≥ ↑ ↓ ⍪ ∊ ⌷"),
		Adverbs: strings.Fields(`/ ⌿ \ ⍀ ⍨`),
		Behind:  strings.Fields("/ ⌿"),
		Outer:   "∘.", Power: "⍣", Open: "{", Close: "}", Left: "⍺", Right: "⍵", Minus: "¯", Quote: "'",
		Square: true,
	}
}

func jGrammar() api.Grammar {
	return api.Grammar{
		Verbs:   strings.Fields("- -. * | |. |: % + < <. <: > >. >: = ~. ~: $ # , ,: /: \\: {. }. { i. e."),
		Adverbs: strings.Fields(`/ \ ~ "1`),
		Power:   "^:", Open: "{{", Close: "}}", Left: "x", Right: "y", Minus: "_", Quote: "'",
		Trains: true,
	}
}

func kGrammar() api.Grammar {
	return api.Grammar{
		Verbs:   strings.Fields("+ - * % & | < > = ~ ! # _ , ^ ? @"),
		Adverbs: strings.Fields(`/ \`),
		Open:    "{", Close: "}", Left: "x", Right: "y", Minus: "-", Quote: `"`,
		Lone: true, Square: true,
	}
}

// fullGrammar is APL's with all that a grammar can have.
func fullGrammar() api.Grammar {
	g := aplGrammar()
	g.Trains, g.Lone = true, true
	return g
}

// dialect is how a text's words are made, and how they stand.
type dialect struct {
	lex func(s string) ([]api.Token, api.Fault)
	g   api.Grammar
}

func inAPL() dialect  { return dialect{alex.Lex, aplGrammar()} }
func inJ() dialect    { return dialect{jlex.Lex, jGrammar()} }
func inK() dialect    { return dialect{klex.Lex, kGrammar()} }
func inFull() dialect { return dialect{alex.Lex, fullGrammar()} }

// with is a dialect whose grammar is changed.
func (d dialect) with(change func(g *api.Grammar)) dialect {
	change(&d.g)
	return d
}

// parse is what Parse says of a text.
func (d dialect) parse(t *testing.T, s string) string {
	t.Helper()
	l, f := d.lex(s)
	if f != (api.Fault{}) {
		t.Fatalf("%q: the test's own text: %v", s, f)
	}
	return said(grammar.Parse(d.g, l, len(s)))
}

// said is what Parse answers: the node, or the fault.
func said(n api.Node, f api.Fault) string {
	if f == (api.Fault{}) {
		return sayNode(n)
	}
	out := ""
	if !isZero(n) {
		out = "!node " + sayNode(n) + " beside "
	}
	if f.Why != 0 {
		out += fmt.Sprintf("!why%d ", f.Why)
	}
	return out + sayFault(f.Err, f.At)
}

// sayFault is an error and its place.
func sayFault(e api.Errno, at int) string {
	switch e {
	case api.ErrSyntax:
		return fmt.Sprintf("syntax at %d", at)
	case api.ErrDeep:
		return fmt.Sprintf("deep at %d", at)
	}
	return fmt.Sprintf("!err%d at %d", e, at)
}

// isZero tells whether a node is the zero value.
func isZero(n api.Node) bool {
	return n.Kind == 0 && n.Op == 0 && n.Name == "" && len(n.Lit.Shape)+len(n.Lit.Cells)+len(n.Kids) == 0 && n.At == 0
}

// telling is how a kind of node is told, which of its fields play a part, and how many parts it has.
type telling struct {
	word          string
	op, name, lit bool
	parts         int
}

// tellings are made once: nodes are told a million times.
var tellings = map[int]telling{
	api.NLit:   {lit: true},
	api.NVar:   {name: true},
	api.NLeft:  {word: "L"},
	api.NRight: {word: "R"},
	api.NMo:    {word: "mo", parts: 2},
	api.NDy:    {word: "dy", parts: 3},
	api.NIndex: {word: "index", parts: 2},
	api.NPrim:  {name: true},
	api.NLam1:  {word: "lam1", parts: 1},
	api.NLam2:  {word: "lam2", parts: 1},
	api.NAdv:   {word: "adv", name: true, parts: 1},
	api.NOuter: {word: "outer", parts: 1},
	api.NPow:   {word: "pow", op: true, parts: 1},
	api.NHook:  {word: "hook", parts: 2},
	api.NFork:  {word: "fork", parts: 3},
}

// sayNode is a node, with where it begins; fields that should be zero are told with a !.
func sayNode(n api.Node) string {
	var out strings.Builder
	tell(&out, n)
	return out.String()
}

func tell(out *strings.Builder, n api.Node) {
	k, known := tellings[n.Kind]
	if !known || len(n.Kids) != k.parts {
		fmt.Fprintf(out, "!kind%d with %d parts", n.Kind, len(n.Kids))
	}
	out.WriteString(k.word)
	tellField(out, k.op, n.Op != 0, func() string { return fmt.Sprint(n.Op) })
	tellField(out, k.name, n.Name != "", func() string { return n.Name })
	tellField(out, k.lit, len(n.Lit.Shape)+len(n.Lit.Cells) > 0, func() string { return sayLit(n.Lit) })
	fmt.Fprintf(out, "@%d", n.At)
	between := "("
	for _, part := range n.Kids {
		out.WriteString(between)
		tell(out, part)
		between = " "
	}
	if len(n.Kids) > 0 {
		out.WriteString(")")
	}
}

// tellField tells a field that plays a part, and, with a !, one that plays none and is there.
func tellField(out *strings.Builder, plays, there bool, say func() string) {
	switch {
	case plays:
		out.WriteString(say())
	case there:
		out.WriteString("!" + say())
	}
}

// sayLit is a literal: an atom's cell, or a list's in brackets; a sign has a c ahead of its number.
func sayLit(a api.Arr) string {
	var cells []string
	for _, c := range a.Cells {
		switch {
		case c.Kind == api.CInt && len(c.Box) == 0:
			cells = append(cells, fmt.Sprint(c.N))
		case c.Kind == api.CChar && len(c.Box) == 0:
			cells = append(cells, fmt.Sprintf("c%d", c.N))
		default:
			cells = append(cells, fmt.Sprintf("!%v", c))
		}
	}
	switch {
	case len(a.Shape) == 0 && len(cells) == 1:
		return cells[0]
	case len(a.Shape) == 1 && a.Shape[0] == len(cells):
		return "[" + strings.Join(cells, " ") + "]"
	}
	return fmt.Sprintf("!shape %v of %v", a.Shape, cells)
}

var places = regexp.MustCompile(`@-?\d+`)

// texts are texts, each with what Parse says of it; where nodes begin is held against it just if that tells it.
type texts [][2]string

// check holds Parse against them.
func (l texts) check(t *testing.T, d dialect) {
	t.Helper()
	for _, c := range l {
		got := d.parse(t, c[0])
		if !places.MatchString(c[1]) {
			got = places.ReplaceAllString(got, "")
		}
		if got != c[1] {
			t.Errorf("%s: %s; want %s", short(c[0]), short(got), short(c[1]))
		}
	}
}

// short is a text that can be told.
func short(s string) string {
	if len(s) > 300 {
		return fmt.Sprintf("%q .. of %d bytes", s[:300], len(s))
	}
	return fmt.Sprintf("%q", s)
}
