package spell_test

import (
	"fmt"
	"math/rand"
	"strings"
	"testing"

	"triglyph/api"
	"triglyph/arr"
	"triglyph/spell"
)

// TestRings: P1, nodes that are parts of themselves have no end, and no text.
func TestRings(t *testing.T) {
	for _, n := range kinds() {
		if len(n.Kids) == 0 {
			continue
		}
		for i := range n.Kids {
			ring := n
			ring.Kids = append([]api.Node(nil), n.Kids...)
			ring.Kids[i] = ring
			ring.Kids[i].Kids = ring.Kids
			expectError(t, ring, fmt.Sprintf("kind %d, part %d", n.Kind, i))
			expectError(t, whole(ring), fmt.Sprintf("kind %d, part %d, in a program", n.Kind, i))
		}
	}
	list := make([]api.Node, 3)
	for i := range list {
		list[i] = api.Node{Kind: api.NFork, Kids: list}
	}
	expectError(t, mo(list[0], name("a")), "trains of themselves")
}

// TestShared: P1, nodes that share their parts are counted as often as they stand there.
func TestShared(t *testing.T) {
	n := name("a")
	for range 62 {
		n = dy(verb("+"), n, n)
	}
	expectError(t, n, "2^62 operands")
	f := verb("+")
	for range 40 {
		f = fork(f, f, f)
	}
	expectError(t, mo(f, name("a")), "3^40 functions")
	n = name("a")
	for range 9 {
		n = index(n, n)
	}
	expectText(t, n, "1023 nodes")
	expectText(t, index(n, n), "2047 nodes")
	expectText(t, mo(verb("+"), index(n, n).Kids[0]), "1025 nodes")
	expectError(t, mo(verb("+"), index(n, n)), "2049 nodes")
}

// TestGreat: P1, programs far beyond what may be, and as great as they may be.
func TestGreat(t *testing.T) {
	n := name("a")
	for range 1 << 16 {
		n = mo(verb("+"), n)
	}
	expectError(t, n, "a chain")
	f := verb("+")
	for range 1 << 16 {
		f = adverb("/", f)
	}
	expectError(t, mo(f, name("a")), "a function")
	expectError(t, api.Node{Kind: api.NFork, Kids: make([]api.Node, 1<<20)}, "parts")
	expectError(t, api.Node{Kind: api.NLit, Lit: api.Arr{Shape: []int{1 << 20}, Cells: make([]api.Cell, 1<<20)}}, "a literal")

	most := make([]int64, api.MaxCells)
	for i := range most {
		most[i] = -1 << 63
	}
	great := nums(most...)
	one := strings.Repeat("¯9223372036854775808 ", api.MaxCells)
	n = great
	for range 60 {
		n = mo(verb("+"), dy(verb("-"), great, n))
	}
	want := strings.Repeat("+ "+one+"- ", 60) + one[:len(one)-1]
	if got := written(aplGrammar(), n); got != want {
		t.Error(short(got))
	}
	n = great
	for range 1000 {
		n = index(n, name("a"))
	}
	if got := written(aplGrammar(), n); got != one[:len(one)-1]+strings.Repeat(" [ a ]", 1000) {
		t.Error(short(got))
	}
	long := strings.Repeat("a", 1<<20)
	if got := written(aplGrammar(), dy(verb(long), name(long), name(long))); got != long+" "+long+" "+long {
		t.Error(short(got))
	}
}

// memory is all that is in the memory of a node, what lies behind its lists too.
func memory(n api.Node) string {
	var out strings.Builder
	fmt.Fprintf(&out, "%d %d %q %v %v %d(", n.Kind, n.Op, n.Name, n.Lit.Shape[:cap(n.Lit.Shape)], n.Lit.Cells[:cap(n.Lit.Cells)], n.At)
	for _, part := range n.Kids[:cap(n.Kids)] {
		out.WriteString(memory(part))
	}
	return out.String() + ")"
}

// roomy is a node whose lists have more memory than they are long.
func roomy(n api.Node) api.Node {
	kids := make([]api.Node, 0, len(n.Kids)+2)
	for _, part := range n.Kids {
		kids = append(kids, roomy(part))
	}
	n.Kids = append(kids, verb("behind"), name("behind"))[:len(n.Kids)]
	n.Lit = roomyArr(n.Lit)
	return n
}

func roomyArr(a api.Arr) api.Arr {
	shape := append(append(make([]int, 0, len(a.Shape)+2), a.Shape...), 2, 3)
	cells := append(append(make([]api.Cell, 0, len(a.Cells)+2), a.Cells...), cell(api.CInt, 77), cell(api.CChar, 78))
	return api.Arr{Shape: shape[:len(a.Shape)], Cells: cells[:len(a.Cells)]}
}

// TestMemory: R3, what is handed in is not changed, and what lies behind a list plays no part. P7: written twice it is the same.
func TestMemory(t *testing.T) {
	t.Parallel()
	r := rand.New(rand.NewSource(166))
	for range 5000 {
		g := anyWords(r)
		n := anyProgram(r, r.Intn(20))
		want := written(g, n)
		more := roomy(n)
		was := memory(more)
		if got := written(g, more); got != want {
			t.Fatalf("%s; want %s", got, want)
		}
		if got := written(g, more); got != want || memory(more) != was {
			t.Fatalf("%s, and then %s", want, got)
		}
		a := anyLiteral(r)
		if got, want := told(spell.Literal(roomyArr(a), g)), told(spell.Literal(a, g)); got != want {
			t.Fatalf("%s; want %s", got, want)
		}
	}
}

// TestNil: R3, lists that are nil and such without elements are the same.
func TestNil(t *testing.T) {
	g := aplGrammar()
	for _, kids := range [][]api.Node{nil, {}, make([]api.Node, 0, 3), []api.Node{name("a")}[:0]} {
		for _, shape := range [][]int{nil, {}, make([]int, 0, 1)} {
			n := api.Node{Kind: api.NLit, Kids: kids, Lit: api.Arr{Shape: shape, Cells: arr.Atom(5).Cells}}
			if got := written(g, mo(api.Node{Kind: api.NPrim, Name: "+", Kids: kids}, n)); got != "+ 5" {
				t.Error(got)
			}
		}
	}
	g.Verbs, g.Adverbs, g.Behind = []string{}, []string{}, []string{}
	if got := written(g, mo(adverb("/", verb("+")), num(5))); got != "+/ 5" {
		t.Error(got)
	}
}

// TestAnything: P1, whatever the nodes and the grammar are, there is an answer, and no text beside an error.
func TestAnything(t *testing.T) {
	t.Parallel()
	r := rand.New(rand.NewSource(167))
	bad := unwritable()
	words := []string{"", "", "a", "(", "'", "\xff", "\x00", "⍵"}
	one := func() string { return words[r.Intn(len(words))] }
	var anyNode func(deep int) api.Node
	anyNode = func(deep int) api.Node {
		all := kinds()
		n := api.Node{Kind: all[r.Intn(len(all))].Kind, Op: r.Intn(5) - 2, Name: one(), Lit: anyLiteral(r), At: r.Intn(5)}
		if r.Intn(20) == 0 {
			n.Kind = r.Intn(60) - 10
		}
		if r.Intn(20) == 0 {
			n.Lit = bad[r.Intn(len(bad))]
		}
		many := len(shapes[n.Kind])
		if r.Intn(20) == 0 {
			many = r.Intn(5)
		}
		for range many {
			if deep > 0 {
				n.Kids = append(n.Kids, anyNode(deep-1))
			}
		}
		return n
	}
	for range 30000 {
		g := api.Grammar{Outer: one(), Power: one(), Open: one(), Close: one(), Left: one(), Right: one(), Minus: one(), Quote: one(), Lone: r.Intn(2) == 0}
		n := anyNode(r.Intn(6))
		s, e := spell.Write(g, n)
		if may := (plain{g}).may(n); may != (e == api.OK) || e != api.OK && (e != api.ErrArg || s != "") {
			t.Fatalf("%v: %q, %v", n, s, e)
		}
		s, e = spell.Literal(n.Lit, g)
		if e != api.OK && (e != api.ErrArg || s != "") {
			t.Fatalf("%v: %q, %v", n.Lit, s, e)
		}
	}
}

// FuzzBack: P1 and 16.5, any text, in each dialect; what is too long, or too deep, once it is written is let be.
func FuzzBack(f *testing.F) {
	for _, s := range []string{"1+⍳3", "({⍵×2}⍣3)1", "(+/ * #) 1 2 3", "3{x+1}/5", "a∘.(+⍨)b", "{{y}}^:2 a", `"a\"b"[1]`} {
		f.Add(s)
	}
	f.Fuzz(func(t *testing.T, s string) {
		for _, d := range []dialect{inAPL(), inJ(), inK()} {
			n, f := d.read(s)
			if f != (api.Fault{}) || len(s) > 500 {
				continue
			}
			first, _ := spell.Write(d.g, n)
			if _, f := d.read(first); f.Err != api.ErrDeep {
				d.back(t, s)
			}
		}
	})
}
