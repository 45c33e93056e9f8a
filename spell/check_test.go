package spell_test

import (
	"fmt"
	"slices"
	"strings"
	"testing"

	"triglyph/api"
	"triglyph/core"
)

// kinds are all kinds of nodes that there are, each with a node of it.
func kinds() []api.Node {
	x, f := name("a"), verb("+")
	return []api.Node{
		num(1), x, left(), right(), mo(f, x), dy(f, x, x), index(x, x),
		f, lam1(x), lam2(x), adverb("/", f), outer(f), power(2, f), hook(f, f), fork(f, f, f),
	}
}

// isFunction tells whether a kind is one of functions, by api's two groups.
func isFunction(kind int) bool { return kind > 20 }

// whole is a program with a node in it.
func whole(n api.Node) api.Node {
	if isFunction(n.Kind) {
		return mo(n, num(1))
	}
	return mo(verb("+"), n)
}

// expectError holds Write against ErrArg, in each grammar.
func expectError(t *testing.T, n api.Node, what string) {
	t.Helper()
	for i, g := range someGrammars() {
		if got := written(g, n); got != "error" {
			t.Errorf("%s, grammar %d: %s", what, i, short(got))
		}
	}
}

// expectText holds Write against some text, in each grammar.
func expectText(t *testing.T, n api.Node, what string) {
	t.Helper()
	for i, g := range someGrammars() {
		if got := written(g, n); got == "error" || got == "" {
			t.Errorf("%s, grammar %d: %s", what, i, short(got))
		}
	}
}

// TestParts: 16.2, each kind with as many parts as it must have, and with none, fewer and more.
func TestParts(t *testing.T) {
	for _, n := range kinds() {
		what := fmt.Sprintf("kind %d", n.Kind)
		expectText(t, whole(n), what)
		for many := range 6 {
			if many == len(n.Kids) {
				continue
			}
			for _, more := range []api.Node{name("a"), verb("+")} {
				m := n
				m.Kids = slices.Clone(n.Kids[:min(many, len(n.Kids))])
				for len(m.Kids) < many {
					m.Kids = append(m.Kids, more)
				}
				expectError(t, whole(m), fmt.Sprintf("%s with %d parts", what, many))
				expectError(t, m, fmt.Sprintf("%s alone with %d parts", what, many))
			}
		}
	}
}

// TestKinds: 16.2, there are no other kinds, whatever their parts.
func TestKinds(t *testing.T) {
	known := map[int]int{}
	for _, n := range kinds() {
		known[n.Kind]++
	}
	x, f := name("a"), verb("+")
	for kind := -100; kind < 1000; kind++ {
		if known[kind] > 0 {
			continue
		}
		for _, parts := range [][]api.Node{nil, {x}, {f}, {f, x}, {x, x}, {f, f}, {f, x, x}, {f, f, f}} {
			n := api.Node{Kind: kind, Name: "a", Lit: num(1).Lit, Kids: parts}
			for _, w := range []api.Node{n, mo(f, n), mo(n, x), dy(f, n, x), mo(adverb("/", n), x), mo(lam1(n), x)} {
				if got := written(aplGrammar(), w); got != "error" {
					t.Errorf("kind %d: %s", kind, got)
				}
			}
		}
	}
	for _, kind := range []int{0, 7, 9, 20, 29, 30, api.NRedF, api.NRedL, api.NScanF, api.NScanL, api.NComm, 36, 1 << 40, -1 << 63} {
		expectError(t, mo(api.Node{Kind: kind, Kids: []api.Node{f}}, x), fmt.Sprintf("kind %d", kind))
		expectError(t, api.Node{Kind: kind}, fmt.Sprintf("kind %d alone", kind))
	}
}

// TestPlaces: 16.2, an expression where a function must stand, and a function where an expression must, in each place of each kind.
func TestPlaces(t *testing.T) {
	for _, n := range kinds() {
		what := fmt.Sprintf("kind %d", n.Kind)
		if isFunction(n.Kind) {
			expectError(t, n, what+" alone")
		} else {
			expectText(t, n, what+" alone")
		}
		for i, part := range n.Kids {
			for _, other := range kinds() {
				m := n
				m.Kids = slices.Clone(n.Kids)
				m.Kids[i] = other
				what := fmt.Sprintf("kind %d with part %d of kind %d", n.Kind, i, other.Kind)
				if isFunction(other.Kind) == isFunction(part.Kind) {
					expectText(t, whole(m), what)
				} else {
					expectError(t, whole(m), what)
					expectError(t, mo(lam2(whole(m)), num(1)), what+" in a text")
				}
			}
		}
	}
}

// TestBelow: 16.2, an NPow's Op below 0 may be just of an NMo's function, of a grammar that is Lone.
func TestBelow(t *testing.T) {
	a, plus := name("a"), verb("+")
	for _, op := range []int{-1, -2, -4096, -1 << 63} {
		below := power(op, lam1(right()))
		for i, g := range someGrammars() {
			got := written(g, mo(below, a))
			if (got == "error") == g.Lone {
				t.Errorf("grammar %d: %s", i, got)
			}
			got = written(g, mo(lam2(dy(plus, left(), mo(below, a))), right()))
			if (got == "error") == g.Lone {
				t.Errorf("grammar %d, in a text: %s", i, got)
			}
		}
		for j, n := range []api.Node{
			dy(below, a, a), mo(adverb("/", below), a), mo(outer(below), a), mo(power(1, below), a), mo(power(-1, below), a),
			mo(hook(below, plus), a), mo(hook(plus, below), a),
			mo(fork(below, plus, plus), a), mo(fork(plus, below, plus), a), mo(fork(plus, plus, below), a),
			dy(hook(plus, below), a, a), mo(lam1(dy(below, a, a)), a), mo(power(1, lam1(dy(below, a, a))), a),
		} {
			expectError(t, n, fmt.Sprintf("Op %d, place %d", op, j))
		}
	}
	for j, n := range []api.Node{mo(power(0, plus), a), dy(power(0, plus), a, a), mo(outer(power(0, plus)), a), mo(hook(power(0, plus), plus), a), mo(power(0, power(0, plus)), a)} {
		expectText(t, n, fmt.Sprintf("Op 0, place %d", j))
	}
}

// chain is a program of so many nodes (1, 3 or more), a call in a call.
func chain(many int) api.Node {
	n, spare := name("a"), many-1
	for ; spare >= 2; spare -= 2 {
		n = mo(verb("+"), n)
	}
	if spare == 1 {
		n.Kids[0] = adverb("/", n.Kids[0])
	}
	return n
}

// wide is a program of so many nodes that lie beside one another as far as they can.
func wide(many int) api.Node {
	if many < 8 {
		return chain(many)
	}
	half := (many - 2) / 2
	return dy(verb("+"), wide(half), wide(many-2-half))
}

// deepFunction is a program of so many nodes, most of which are one function.
func deepFunction(many int) api.Node {
	f := verb("+")
	for range many - 3 {
		f = adverb("/", f)
	}
	return mo(f, name("a"))
}

// deepIndex is a program of so many nodes (an odd number of them), most of which are brackets behind an operand.
func deepIndex(many int) api.Node {
	n := name("a")
	for range (many - 1) / 2 {
		n = index(n, name("a"))
	}
	return n
}

// TestNodes: 16.2, exactly MaxTokens nodes, and one more.
func TestNodes(t *testing.T) {
	for what, make := range map[string]func(many int) api.Node{"a chain": chain, "wide": wide, "a deep function": deepFunction} {
		for _, many := range []int{3, 4, 5, 6, 7, 50, 51, api.MaxTokens - 2, api.MaxTokens - 1, api.MaxTokens} {
			n := make(many)
			if core.Size(n) != many {
				t.Fatalf("%s: the test's own program has %d nodes, not %d", what, core.Size(n), many)
			}
			expectText(t, n, fmt.Sprintf("%s of %d", what, many))
		}
		for _, many := range []int{1, 2, 3, 100, api.MaxTokens, 5 * api.MaxTokens} {
			n := make(api.MaxTokens + many)
			if core.Size(n) != api.MaxTokens+many {
				t.Fatalf("%s: the test's own program has %d nodes", what, core.Size(n))
			}
			expectError(t, n, fmt.Sprintf("%s of %d more", what, many))
		}
	}
	expectText(t, deepIndex(api.MaxTokens-1), "brackets")
	expectError(t, deepIndex(api.MaxTokens+1), "brackets, one more")
	expectText(t, mo(verb("+"), deepIndex(api.MaxTokens-3)), "brackets and a call")
	expectText(t, mo(lam1(deepIndex(api.MaxTokens-3)), name("a")), "brackets in a text")
	expectError(t, mo(lam1(deepIndex(api.MaxTokens-1)), name("a")), "brackets in a text, two more")
}

// TestNodesText: 16.2 to 16.4, the text of MaxTokens nodes is whole.
func TestNodesText(t *testing.T) {
	n := deepFunction(api.MaxTokens)
	if got, want := written(aplGrammar(), n), "+"+strings.Repeat("/", api.MaxTokens-3)+" a"; got != want {
		t.Errorf("%s; want %s", short(got), short(want))
	}
	n = chain(api.MaxTokens - 1)
	if got, want := written(aplGrammar(), n), strings.Repeat("+ ", (api.MaxTokens-2)/2)+"a"; got != want {
		t.Errorf("%s; want %s", short(got), short(want))
	}
	n = deepIndex(api.MaxTokens - 1)
	if got, want := written(aplGrammar(), n), "a"+strings.Repeat(" [ a ]", (api.MaxTokens-2)/2); got != want {
		t.Errorf("%s; want %s", short(got), short(want))
	}
}
