package spell_test

import (
	"fmt"
	"strings"
	"testing"

	"triglyph/alex"
	"triglyph/api"
	"triglyph/arr"
	"triglyph/grammar"
	"triglyph/jlex"
	"triglyph/klex"
	"triglyph/spell"
)

// aplGrammar, jGrammar and kGrammar are those of the dialects, by 17.1, 18.1 and 19.1.
func aplGrammar() api.Grammar {
	return api.Grammar{
		Verbs:   strings.Fields("+ - × | ~ ⍳ ⍴ ≢ , ⊖ ⌽ ⍉ ⍋ ⍒ ∪ ⊂ ⊃ ÷ ⌊ ⌈ = ≠ < > ≤ ≥ ↑ ↓ ⍪ ∊ ⌷"),
		Adverbs: strings.Fields(`/ ⌿ \ ⍀ ⍨`),
		Behind:  strings.Fields("/ ⌿"),
		Outer:   "∘.", Power: "⍣", Open: "{", Close: "}", Left: "⍺", Right: "⍵", Minus: "¯", Quote: "'",
		Square: true,
	}
}

func jGrammar() api.Grammar {
	return api.Grammar{
		Verbs:   strings.Fields("- -. * | |. |: % + < <. <: > >. >: = ~. ~: $ # , ,: /: \\: {. }. { i. e."),
		Adverbs: strings.Fields(`/ \ ~ "1`),
		Power:   "^:", Open: "{{", Close: "}}", Left: "x", Right: "y", Minus: "_", Quote: "'",
		Trains: true,
	}
}

func kGrammar() api.Grammar {
	return api.Grammar{
		Verbs:   strings.Fields("+ - * % & | < > = ~ ! # _ , ^ ? @"),
		Adverbs: strings.Fields(`/ \`),
		Open:    "{", Close: "}", Left: "x", Right: "y", Minus: "-", Quote: `"`,
		Lone: true, Square: true,
	}
}

// fullGrammar is APL's with all that a grammar can have.
func fullGrammar() api.Grammar {
	g := aplGrammar()
	g.Trains, g.Lone = true, true
	return g
}

// oddGrammar is one whose words are none of a dialect's.
func oddGrammar() api.Grammar {
	return api.Grammar{Outer: "each", Power: "times", Open: "begin", Close: "end", Left: "one", Right: "two", Minus: "minus ", Quote: "''"}
}

// someGrammars are the dialects' and others.
func someGrammars() []api.Grammar {
	lone := oddGrammar()
	lone.Lone = true
	return []api.Grammar{aplGrammar(), jGrammar(), kGrammar(), fullGrammar(), oddGrammar(), lone}
}

// num, nums and text are literals.
func num(n int64) api.Node { return api.Node{Kind: api.NLit, Lit: arr.Atom(n)} }

func nums(l ...int64) api.Node { return api.Node{Kind: api.NLit, Lit: arr.Nums(l)} }

func text(s string) api.Node { return api.Node{Kind: api.NLit, Lit: signs(s)} }

// signs is a text's array.
func signs(s string) api.Arr {
	var l []int64
	for _, r := range s {
		l = append(l, int64(r))
	}
	return arr.Text(l)
}

// named is a node with a name: an NVar, an NPrim, an NAdv.
func named(kind int, name string, parts ...api.Node) api.Node {
	return api.Node{Kind: kind, Name: name, Kids: parts}
}

// of is a node of parts.
func of(kind int, parts ...api.Node) api.Node { return api.Node{Kind: kind, Kids: parts} }

func name(s string) api.Node                  { return named(api.NVar, s) }
func verb(s string) api.Node                  { return named(api.NPrim, s) }
func adverb(s string, part api.Node) api.Node { return named(api.NAdv, s, part) }
func mo(f, x api.Node) api.Node               { return of(api.NMo, f, x) }
func dy(f, x, y api.Node) api.Node            { return of(api.NDy, f, x, y) }
func index(x, y api.Node) api.Node            { return of(api.NIndex, x, y) }
func lam1(x api.Node) api.Node                { return of(api.NLam1, x) }
func lam2(x api.Node) api.Node                { return of(api.NLam2, x) }
func outer(f api.Node) api.Node               { return of(api.NOuter, f) }
func hook(f, g api.Node) api.Node             { return of(api.NHook, f, g) }
func fork(f, g, h api.Node) api.Node          { return of(api.NFork, f, g, h) }
func left() api.Node                          { return of(api.NLeft) }
func right() api.Node                         { return of(api.NRight) }

// power is a function so often.
func power(often int, f api.Node) api.Node {
	return api.Node{Kind: api.NPow, Op: often, Kids: []api.Node{f}}
}

// written is what Write answers.
func written(g api.Grammar, n api.Node) string { return told(spell.Write(g, n)) }

// told is a text, or an error without one.
func told(s string, e api.Errno) string {
	switch {
	case e == api.OK:
		return s
	case e == api.ErrArg && s == "":
		return "error"
	}
	return fmt.Sprintf("!error %d beside %q", e, s)
}

// pair is a program, and what Write answers of it.
type pair struct {
	n    api.Node
	want string
}

type pairs []pair

// check holds Write against them.
func (l pairs) check(t *testing.T, g api.Grammar) {
	t.Helper()
	for _, c := range l {
		if got := written(g, c.n); got != c.want {
			t.Errorf("%s; want %s", short(got), short(c.want))
		}
	}
}

// short is a text that can be told.
func short(s string) string {
	if len(s) > 300 {
		return fmt.Sprintf("%q .. of %d bytes", s[:300], len(s))
	}
	return fmt.Sprintf("%q", s)
}

// dialect is how a text's words are made, and how they stand.
type dialect struct {
	lex func(s string) ([]api.Token, api.Fault)
	g   api.Grammar
}

func inAPL() dialect { return dialect{alex.Lex, aplGrammar()} }
func inJ() dialect   { return dialect{jlex.Lex, jGrammar()} }
func inK() dialect   { return dialect{klex.Lex, kGrammar()} }

// read is a text's program.
func (d dialect) read(s string) (api.Node, api.Fault) {
	l, f := d.lex(s)
	if f != (api.Fault{}) {
		return api.Node{}, f
	}
	return grammar.Parse(d.g, l, len(s))
}
