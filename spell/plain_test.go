package spell_test

import (
	"fmt"
	"math/rand"
	"slices"
	"strings"
	"testing"

	"triglyph/api"
	"triglyph/arr"
	"triglyph/core"
)

// plain is 16.2 to 16.4 said another way: a program is a list of words, and those that stand right behind the one ahead begin with a mark; which name NRight has is settled ahead of all.
type plain struct {
	g api.Grammar
}

const mark = "\x00"

// write is what Write must answer.
func (p plain) write(n api.Node) string {
	if !p.may(n) {
		return "error"
	}
	return strings.ReplaceAll(strings.Join(p.expression(p.settled(n, p.g.Right)), " "), " "+mark, "")
}

// place is a node where something must stand.
type place struct {
	n        api.Node
	function bool
	called   bool // as the function of an NMo
}

// shapes are, by kinds, which parts are functions.
var shapes = map[int][]bool{
	api.NLit: {}, api.NVar: {}, api.NLeft: {}, api.NRight: {}, api.NPrim: {},
	api.NLam1: {false}, api.NLam2: {false},
	api.NAdv: {true}, api.NOuter: {true}, api.NPow: {true},
	api.NMo: {true, false}, api.NIndex: {false, false}, api.NHook: {true, true},
	api.NDy: {true, false, false}, api.NFork: {true, true, true},
}

// may tells whether there is a text, by going through all nodes in whatever order.
func (p plain) may(n api.Node) bool {
	todo := []place{{n: n}}
	for i := 0; i < len(todo); i++ {
		at := todo[i]
		shape, known := shapes[at.n.Kind]
		if !known || isFunction(at.n.Kind) != at.function || len(shape) != len(at.n.Kids) {
			return false
		}
		if at.n.Kind == api.NLit && !core.Literal(at.n.Lit) {
			return false
		}
		if at.n.Kind == api.NPow && at.n.Op < 0 && !(p.g.Lone && at.called) {
			return false
		}
		for j, part := range at.n.Kids {
			todo = append(todo, place{part, shape[j], at.n.Kind == api.NMo && j == 0})
		}
	}
	return len(todo) <= 2048
}

// settled is a program in which the arguments have the names that they are written with, as NVars.
func (p plain) settled(n api.Node, right string) api.Node {
	switch n.Kind {
	case api.NLeft:
		return name(p.g.Left)
	case api.NRight:
		return name(right)
	case api.NLam2:
		right = p.g.Right
	case api.NLam1:
		right = map[bool]string{true: p.g.Left, false: p.g.Right}[p.g.Lone]
	}
	n.Kids = slices.Clone(n.Kids)
	for i, part := range n.Kids {
		n.Kids[i] = p.settled(part, right)
	}
	return n
}

func bracketed(words []string) []string { return append(append([]string{"("}, words...), ")") }

func (p plain) expression(n api.Node) []string {
	switch {
	case n.Kind == api.NMo && p.g.Lone && n.Kids[0].Kind == api.NPow:
		ahead := append([]string{p.number(int64(n.Kids[0].Op))}, p.function(n.Kids[0].Kids[0])...)
		return append(append(ahead, mark+"/"), p.expression(n.Kids[1])...)
	case n.Kind == api.NMo:
		return append(p.called(n.Kids[0]), p.expression(n.Kids[1])...)
	case n.Kind == api.NDy:
		return slices.Concat(p.operand(n.Kids[1]), p.called(n.Kids[0]), p.expression(n.Kids[2]))
	}
	return p.operand(n)
}

func (p plain) called(f api.Node) []string {
	if f.Kind == api.NPow {
		return bracketed(p.function(f))
	}
	return p.function(f)
}

func (p plain) operand(n api.Node) []string {
	switch n.Kind {
	case api.NLit:
		return p.literal(n.Lit)
	case api.NVar:
		return []string{n.Name}
	case api.NIndex:
		return slices.Concat(p.operand(n.Kids[0]), []string{"["}, p.expression(n.Kids[1]), []string{"]"})
	}
	return bracketed(p.expression(n))
}

func (p plain) number(n int64) string {
	out, below := strings.CutPrefix(fmt.Sprint(n), "-")
	if below {
		return p.g.Minus + out
	}
	return out
}

func (p plain) literal(a api.Arr) []string {
	var out []string
	signs := ""
	for _, c := range a.Cells {
		if c.Kind == api.CInt {
			out = append(out, p.number(c.N))
		}
		signs += string(rune(c.N))
	}
	if len(out) > 0 {
		return out
	}
	guards := []string{`\`, `\\`, `"`, `\"`}
	if p.g.Quote == "'" {
		guards = []string{"'", "''"}
	}
	return []string{p.g.Quote + strings.NewReplacer(guards...).Replace(signs) + p.g.Quote}
}

func (p plain) function(n api.Node) []string {
	switch n.Kind {
	case api.NPrim:
		return []string{n.Name}
	case api.NLam1, api.NLam2:
		return slices.Concat([]string{p.g.Open}, p.expression(n.Kids[0]), []string{p.g.Close})
	case api.NAdv:
		return append(p.function(n.Kids[0]), mark+n.Name)
	case api.NPow:
		return append(p.function(n.Kids[0]), mark+p.g.Power+fmt.Sprint(n.Op))
	case api.NOuter:
		part := p.function(n.Kids[0])
		if slices.Contains([]int{api.NAdv, api.NOuter, api.NPow}, n.Kids[0].Kind) {
			part = bracketed(part)
		}
		return append([]string{p.g.Outer}, part...)
	}
	var parts []string
	for _, part := range n.Kids {
		parts = append(parts, p.function(part)...)
	}
	return bracketed(parts)
}

// maker makes programs by chance.
type maker struct {
	*rand.Rand
	g    api.Grammar
	size int // how much may still come
}

func (m *maker) one(words ...string) string { return words[m.Intn(len(words))] }

// node makes a function, or an expression.
func (m *maker) node(function bool) api.Node {
	m.size--
	if function {
		return m.function()
	}
	return m.expression()
}

func (m *maker) expression() api.Node {
	leaves := []int{api.NLit, api.NVar, api.NLeft, api.NRight}
	kind := leaves[m.Intn(len(leaves))]
	if m.size > 0 && m.Intn(5) > 0 {
		kind = []int{api.NMo, api.NMo, api.NDy, api.NDy, api.NIndex}[m.Intn(5)]
	}
	n := m.parts(kind)
	switch kind {
	case api.NLit:
		n.Lit = anyLiteral(m.Rand)
	case api.NVar:
		n.Name = m.one("a", "b", "c97", "abcdefgh", "no name")
	}
	return n
}

func (m *maker) function() api.Node {
	kind := api.NPrim
	if m.size > 0 && m.Intn(5) > 1 {
		kind = []int{api.NLam1, api.NLam2, api.NAdv, api.NAdv, api.NOuter, api.NPow, api.NPow, api.NHook, api.NFork}[m.Intn(9)]
	}
	n := m.parts(kind)
	switch kind {
	case api.NPrim:
		n.Name = m.one("+", "-", "⍳", "no sign")
	case api.NAdv:
		n.Name = m.one("/", "\\", "⍨", `"1`)
	case api.NPow:
		n.Op = []int{0, 1, 2, 10, 4096, 4097, 1 << 40}[m.Intn(7)]
	}
	return n
}

// parts makes a node of a kind with its parts.
func (m *maker) parts(kind int) api.Node {
	n := api.Node{Kind: kind, At: m.Intn(9)}
	for _, function := range shapes[kind] {
		n.Kids = append(n.Kids, m.node(function))
	}
	return n
}

// anyProgram is a program by chance.
func anyProgram(r *rand.Rand, size int) api.Node {
	m := &maker{Rand: r, size: size}
	return m.expression()
}

// anyWords gives a grammar words by chance; of those that may be empty some are.
func anyWords(r *rand.Rand) api.Grammar {
	one := func() string {
		return []string{"a", "⍵", "{", "}}", "two words", "'", `"`, "\\", "/", "⍣", "(", "0", "\xff", "|"}[r.Intn(14)]
	}
	orNone := func() string {
		if r.Intn(4) == 0 {
			return ""
		}
		return one()
	}
	return api.Grammar{
		Outer: orNone(), Power: orNone(), Open: one(), Close: one(), Left: one(), Right: one(), Minus: orNone(), Quote: orNone(),
		Trains: r.Intn(2) == 0, Lone: r.Intn(2) == 0, Square: r.Intn(2) == 0,
	}
}

// TestChance: 16.2 to 16.4, programs by chance, of grammars by chance and of the dialects', against the chapter said another way.
func TestChance(t *testing.T) {
	t.Parallel()
	r := rand.New(rand.NewSource(163))
	grammars := someGrammars()
	seen, blankAhead := map[int]int{}, 0
	for range 40000 {
		g := anyWords(r)
		if r.Intn(2) == 0 {
			g = grammars[r.Intn(len(grammars))]
		}
		n := anyProgram(r, r.Intn(40))
		if strings.HasPrefix(hold(t, g, n), " ") {
			blankAhead++
		}
		count(n, seen)
	}
	if blankAhead < 300 {
		t.Errorf("texts whose first word is empty: %d", blankAhead)
	}
	for kind := range shapes {
		if seen[kind] < 5000 {
			t.Errorf("kind %d: %d times", kind, seen[kind])
		}
	}
}

// TestBroken: 16.2, the same with a node changed.
func TestBroken(t *testing.T) {
	t.Parallel()
	r := rand.New(rand.NewSource(164))
	bad, seen := unwritable(), map[string]int{}
	for range 60000 {
		g := anyWords(r)
		n := anyProgram(r, r.Intn(12))
		n = broken(r, n, bad)
		seen[map[bool]string{true: "error", false: "text"}[hold(t, g, n) == "error"]]++
	}
	if seen["error"] < 10000 || seen["text"] < 10000 {
		t.Errorf("%v", seen)
	}
}

// hold holds Write against the chapter said another way.
func hold(t *testing.T, g api.Grammar, n api.Node) string {
	t.Helper()
	got, want := written(g, n), plain{g}.write(n)
	if got != want {
		t.Fatalf("%v of %+v:\n%s; want\n%s", n, g, short(got), short(want))
	}
	return got
}

// count counts nodes by their kinds.
func count(n api.Node, seen map[int]int) {
	seen[n.Kind]++
	for _, part := range n.Kids {
		count(part, seen)
	}
}

// broken is a program with one node changed, be it to have a literal that is bad.
func broken(r *rand.Rand, n api.Node, bad []api.Arr) api.Node {
	if len(n.Kids) > 0 && r.Intn(4) > 0 {
		n.Kids = slices.Clone(n.Kids)
		i := r.Intn(len(n.Kids))
		n.Kids[i] = broken(r, n.Kids[i], bad)
		return n
	}
	switch r.Intn(8) {
	case 0:
		n.Kind, n.Name = r.Intn(40)-2, "a"
	case 1:
		n.Kids = append(slices.Clone(n.Kids), anyProgram(r, 2))
	case 2:
		n.Kids = slices.Clone(n.Kids[:r.Intn(len(n.Kids)+1)])
	case 3:
		n.Op = r.Intn(4) - 2
	case 4:
		n.Lit = bad[r.Intn(len(bad))]
	case 5:
		n.Kind, n.Lit = api.NLit, arr.Atom(5)
	case 6:
		return power(r.Intn(4)-2, n)
	case 7:
		return mo(power(r.Intn(4)-2, verb("+")), n)
	}
	return n
}
