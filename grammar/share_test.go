package grammar_test

import (
	"fmt"
	"math/rand"
	"slices"
	"strings"
	"testing"
	"unsafe"

	"triglyph/api"
	"triglyph/arr"
	"triglyph/grammar"
)

// rearLit is a literal whose lists have more memory than they are long; what lies behind them is no part of it.
func rearLit(a api.Arr) api.Arr {
	shape := append(append(make([]int, 0, len(a.Shape)+3), a.Shape...), 9, 9, 9)
	cells := append(append(make([]api.Cell, 0, len(a.Cells)+3), a.Cells...), api.Cell{N: 77}, api.Cell{N: 78})
	return api.Arr{Shape: shape[:len(a.Shape)], Cells: cells[:len(a.Cells)]}
}

// rearWords are words likewise, with memory behind them, and literals with memory behind theirs.
func rearWords(words []api.Token) []api.Token {
	out := make([]api.Token, 0, len(words)+3)
	for _, w := range words {
		w.Lit = rearLit(w.Lit)
		out = append(out, w)
	}
	return append(out, signWord("+", 5), numberWord(1, 6), signWord("-", 7))[:len(words)]
}

// behindAll is all that is in the memory of words, what lies behind them too.
func behindAll(words []api.Token) string {
	var out strings.Builder
	for _, w := range words[:cap(words)] {
		fmt.Fprintf(&out, "%d %q %v %v %d;", w.Kind, w.Text, w.Lit.Shape[:cap(w.Lit.Shape)], w.Lit.Cells[:cap(w.Lit.Cells)], w.At)
	}
	return out.String()
}

// memory is what lists a node has, each by where it lies and how far it goes.
func memory(n api.Node, lists map[uintptr]uintptr) {
	addList(lists, n.Lit.Shape)
	addList(lists, n.Lit.Cells)
	addList(lists, n.Kids)
	for _, part := range n.Kids {
		memory(part, lists)
	}
}

func addList[T any](lists map[uintptr]uintptr, l []T) {
	if cap(l) > 0 {
		var one T
		at := uintptr(unsafe.Pointer(unsafe.SliceData(l)))
		lists[at] = at + uintptr(cap(l))*unsafe.Sizeof(one)
	}
}

// lists is how many lists a node has.
func lists(n api.Node) int {
	many := 0
	for _, long := range []int{cap(n.Lit.Shape), cap(n.Lit.Cells), cap(n.Kids)} {
		many += min(long, 1)
	}
	for _, part := range n.Kids {
		many += lists(part)
	}
	return many
}

// overlap tells whether two of some stretches of memory do.
func overlap(all map[uintptr]uintptr) bool {
	end := uintptr(0)
	for _, at := range slices.Sorted(func(yield func(uintptr) bool) {
		for at := range all {
			if !yield(at) {
				return
			}
		}
	}) {
		if at < end {
			return true
		}
		end = all[at]
	}
	return false
}

// TestShared: R3, what is handed in is neither changed nor kept, what lies behind a list is not read, and an answer has memory of its own.
func TestShared(t *testing.T) {
	t.Parallel()
	r := rand.New(rand.NewSource(153))
	for _, g := range wholeGrammars() {
		verbs := strings.Join(g.Verbs, " ")
		for range 300 {
			want, words := made(r, g, r.Intn(60))
			words = rearWords(words)
			was := behindAll(words)
			n, f := grammar.Parse(g, words, 0)
			m, _ := grammar.Parse(g, words, 0)
			if behindAll(words) != was || strings.Join(g.Verbs, " ") != verbs {
				t.Fatalf("%s: changed", sayWords(words))
			}
			all := map[uintptr]uintptr{}
			for _, w := range words {
				addList(all, w.Lit.Shape)
				addList(all, w.Lit.Cells)
			}
			addList(all, words)
			many := len(all) + lists(n) + lists(m)
			memory(n, all)
			memory(m, all)
			if len(all) != many || overlap(all) {
				t.Fatalf("%s: memory is shared", sayWords(words))
			}
			for i := range words {
				words[i] = api.Token{}
			}
			if got := said(n, f); got != want.String() {
				t.Fatalf("%s; want %s", got, want)
			}
		}
	}
}

// TestOneMemory: R3, words that share a literal are nodes that share none.
func TestOneMemory(t *testing.T) {
	lit := arr.Nums([]int64{1, 2})
	words := []api.Token{{Kind: api.TNum, Lit: lit}, signWord("+", 1), {Kind: api.TNum, Lit: lit, At: 2}}
	n, f := grammar.Parse(aplGrammar(), words, 3)
	if f != (api.Fault{}) {
		t.Fatal(f)
	}
	n.Kids[1].Lit.Cells[0].N, n.Kids[1].Lit.Shape[0] = 7, 8
	if got := sayLit(n.Kids[2].Lit); got != "[1 2]" || sayLit(lit) != "[1 2]" {
		t.Errorf("%s, %s", got, sayLit(lit))
	}
}

// TestNil: R3, no words and a list without words are the same; so are a grammar's lists.
func TestNil(t *testing.T) {
	for _, words := range [][]api.Token{nil, {}, make([]api.Token, 0, 4), wordsOf("a + a")[:0]} {
		if got := said(grammar.Parse(aplGrammar(), words, 4)); got != "syntax at 4" {
			t.Error(got)
		}
	}
	g := api.Grammar{Verbs: []string{}, Adverbs: []string{}, Behind: []string{}}
	for _, words := range [][]api.Token{wordsOf("a + a"), wordsOf("+ a"), wordsOf("a")} {
		if got, want := said(grammar.Parse(g, words, 4)), said(grammar.Parse(api.Grammar{}, words, 4)); got != want {
			t.Errorf("%s; want %s", got, want)
		}
	}
	g.Verbs = append(make([]string, 0, 9), "+", "-")[:1]
	if got := said(grammar.Parse(g, wordsOf("- a"), 4)); got != "syntax at 0" {
		t.Error(got)
	}
}
