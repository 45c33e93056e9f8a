package kay_test

import (
	"fmt"
	"regexp"
	"strings"
	"testing"

	"triglyph/api"
	"triglyph/arr"
	"triglyph/kay"
)

// wanted is the grammar that 19.1 tells of, written out once more.
func wanted() api.Grammar {
	return api.Grammar{
		Verbs:   []string{"+", "-", "*", "%", "&", "|", "<", ">", "=", "~", "!", "#", "_", ",", "^", "?", "@"},
		Adverbs: []string{"/", "\\"},
		Behind:  nil, Outer: "", Power: "", Open: "{", Close: "}", Left: "x", Right: "y", Minus: "-", Quote: "\"",
		Trains: false, Lone: true, Square: true,
	}
}

// num, nums and text are literals.
func num(n int64) api.Node { return api.Node{Kind: api.NLit, Lit: arr.Atom(n)} }

func nums(l ...int64) api.Node { return api.Node{Kind: api.NLit, Lit: arr.Nums(l)} }

func text(s string) api.Node {
	var l []int64
	for _, r := range s {
		l = append(l, int64(r))
	}
	return api.Node{Kind: api.NLit, Lit: arr.Text(l)}
}

// named is a node with a name: an NVar, an NPrim, an NAdv.
func named(kind int, name string, parts ...api.Node) api.Node {
	return api.Node{Kind: kind, Name: name, Kids: parts}
}

// of is a node of parts.
func of(kind int, parts ...api.Node) api.Node { return api.Node{Kind: kind, Kids: parts} }

func name(s string) api.Node                  { return named(api.NVar, s) }
func verb(s string) api.Node                  { return named(api.NPrim, s) }
func adverb(s string, part api.Node) api.Node { return named(api.NAdv, s, part) }
func mo(f, x api.Node) api.Node               { return of(api.NMo, f, x) }
func dy(f, x, y api.Node) api.Node            { return of(api.NDy, f, x, y) }
func lam1(x api.Node) api.Node                { return of(api.NLam1, x) }
func lam2(x api.Node) api.Node                { return of(api.NLam2, x) }
func index(x, y api.Node) api.Node            { return of(api.NIndex, x, y) }
func left() api.Node                          { return of(api.NLeft) }
func right() api.Node                         { return of(api.NRight) }

// power is a function so often.
func power(often int, f api.Node) api.Node {
	return api.Node{Kind: api.NPow, Op: often, Kids: []api.Node{f}}
}

// repeat is a function of one, by its text, so often of something.
func repeat(often int, in, x api.Node) api.Node { return mo(power(often, lam1(in)), x) }

// line is a program.
func line(set string, n api.Node) api.Program { return api.Program{Set: set, Expr: n} }

// parsed is what Parse says of a text.
func parsed(s string) string { return said(kay.Parse(s)) }

// said is what Parse answers: the program, or the fault.
func said(p api.Program, f api.Fault) string {
	if f == (api.Fault{}) {
		return sayProgram(p)
	}
	out := ""
	if p.Set != "" || p.Origin != 0 || sayNode(p.Expr) != sayNode(api.Node{}) {
		out = "!program " + sayProgram(p) + " beside "
	}
	if f.Why != 0 {
		out += fmt.Sprintf("!why%d ", f.Why)
	}
	return out + sayFault(f)
}

// sayFault is an error and its place.
func sayFault(f api.Fault) string {
	switch f.Err {
	case api.ErrSyntax:
		return fmt.Sprintf("syntax at %d", f.At)
	case api.ErrDeep:
		return fmt.Sprintf("deep at %d", f.At)
	case api.ErrLong:
		return fmt.Sprintf("long at %d", f.At)
	case api.ErrUtf8:
		return fmt.Sprintf("utf8 at %d", f.At)
	}
	return fmt.Sprintf("!err%d at %d", f.Err, f.At)
}

// sayProgram is what a program sets, and its expression; from where it counts is told if it should not be there.
func sayProgram(p api.Program) string {
	out := sayNode(p.Expr)
	if p.Set != "" {
		out = p.Set + " = " + out
	}
	if p.Origin != 0 {
		out = fmt.Sprintf("!origin %d: %s", p.Origin, out)
	}
	return out
}

// telling is how a kind of node is told, which of its fields play a part, and how many parts it has.
type telling struct {
	word          string
	op, name, lit bool
	parts         int
}

// tellings are made once: nodes are told a million times.
var tellings = map[int]telling{
	api.NLit:   {lit: true},
	api.NVar:   {name: true},
	api.NLeft:  {word: "L"},
	api.NRight: {word: "R"},
	api.NMo:    {word: "mo", parts: 2},
	api.NDy:    {word: "dy", parts: 3},
	api.NIndex: {word: "index", parts: 2},
	api.NPrim:  {name: true},
	api.NLam1:  {word: "lam1", parts: 1},
	api.NLam2:  {word: "lam2", parts: 1},
	api.NAdv:   {word: "adv", name: true, parts: 1},
	api.NPow:   {word: "pow", op: true, parts: 1},
}

// sayNode is a node, with where it begins; fields that should be zero are told with a !.
func sayNode(n api.Node) string {
	var out strings.Builder
	tell(&out, n)
	return out.String()
}

func tell(out *strings.Builder, n api.Node) {
	k, known := tellings[n.Kind]
	if !known || len(n.Kids) != k.parts {
		fmt.Fprintf(out, "!kind%d with %d parts", n.Kind, len(n.Kids))
	}
	out.WriteString(k.word)
	tellField(out, k.op, n.Op != 0, func() string { return fmt.Sprint(n.Op) })
	tellField(out, k.name, n.Name != "", func() string { return n.Name })
	tellField(out, k.lit, len(n.Lit.Shape)+len(n.Lit.Cells) > 0, func() string { return sayLit(n.Lit) })
	fmt.Fprintf(out, "@%d", n.At)
	between := "("
	for _, part := range n.Kids {
		out.WriteString(between)
		tell(out, part)
		between = " "
	}
	if len(n.Kids) > 0 {
		out.WriteString(")")
	}
}

// tellField tells a field that plays a part, and, with a !, one that plays none and is there.
func tellField(out *strings.Builder, plays, there bool, say func() string) {
	switch {
	case plays:
		out.WriteString(say())
	case there:
		out.WriteString("!" + say())
	}
}

// sayLit is a literal: an atom's cell, or a list's in brackets; a sign has a c ahead of its number.
func sayLit(a api.Arr) string {
	var cells []string
	for _, c := range a.Cells {
		switch {
		case c.Kind == api.CInt && len(c.Box) == 0:
			cells = append(cells, fmt.Sprint(c.N))
		case c.Kind == api.CChar && len(c.Box) == 0:
			cells = append(cells, fmt.Sprintf("c%d", c.N))
		default:
			cells = append(cells, fmt.Sprintf("!%d %d of %d", c.Kind, c.N, len(c.Box)))
		}
	}
	switch {
	case len(a.Shape) == 0 && len(cells) == 1:
		return cells[0]
	case len(a.Shape) == 1 && a.Shape[0] == len(cells):
		return "[" + strings.Join(cells, " ") + "]"
	}
	return fmt.Sprintf("!shape %v of %v", a.Shape, cells)
}

var places = regexp.MustCompile(`@-?\d+`)

// bare is a program as it is told, without where its nodes begin.
func bare(said string) string { return places.ReplaceAllString(said, "") }

// texts are texts, each with what Parse says of it; where nodes begin is held against it just if that tells it.
type texts [][2]string

// check holds Parse against them.
func (l texts) check(t *testing.T) {
	t.Helper()
	for _, c := range l {
		got := parsed(c[0])
		if !places.MatchString(c[1]) {
			got = bare(got)
		}
		if got != c[1] {
			t.Errorf("%s: %s; want %s", short(c[0]), short(got), short(c[1]))
		}
	}
}

// printed is what Print says of a program: its text, or "error".
func printed(p api.Program) string {
	s, e := kay.Print(p)
	switch {
	case e == api.OK:
		return s
	case e == api.ErrArg && s == "":
		return "error"
	}
	return fmt.Sprintf("!error %d beside %q", e, s)
}

// pair is a program, and what Print says of it.
type pair struct {
	p    api.Program
	want string
}

type pairs []pair

// check holds Print against them.
func (l pairs) check(t *testing.T) {
	t.Helper()
	for _, c := range l {
		if got := printed(c.p); got != c.want {
			t.Errorf("%s; want %s", short(got), short(c.want))
		}
	}
}

// short is a text that can be told.
func short(s string) string {
	if len(s) > 300 {
		return fmt.Sprintf("%q .. of %d bytes", s[:300], len(s))
	}
	return fmt.Sprintf("%q", s)
}
