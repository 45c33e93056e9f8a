package aeval_test

import (
	"slices"
	"testing"

	"triglyph/aeval"
	"triglyph/api"
)

// memory is where lists lie, each of their elements, with what lies behind their lengths.
type memory struct {
	axes   map[*int]int
	cells  map[*api.Cell]int
	arrays map[*api.Arr]int
}

func newMemory() memory {
	return memory{axes: map[*int]int{}, cells: map[*api.Cell]int{}, arrays: map[*api.Arr]int{}}
}

// note puts a list's elements down, and tells whether none of them was down already.
func note[T any](down map[*T]int, l []T) bool {
	fresh := true
	l = l[:cap(l)]
	for i := range l {
		fresh = fresh && down[&l[i]] == 0
		down[&l[i]]++
	}
	return fresh
}

// add puts an array down, and tells whether it shares nothing with what is down, nor within itself.
func (m memory) add(a api.Arr) bool {
	fresh := note(m.axes, a.Shape)
	fresh = note(m.cells, a.Cells) && fresh
	for _, c := range a.Cells {
		fresh = note(m.arrays, c.Box) && fresh
		for _, within := range c.Box {
			fresh = m.add(within) && fresh
		}
	}
	return fresh
}

// expectOwn: an answer shares no memory with other arrays, and no two lists of it share any.
func expectOwn(t *testing.T, what string, got api.Arr, others ...api.Arr) {
	t.Helper()
	m := newMemory()
	for _, a := range others {
		m.add(a)
	}
	if !m.add(got) {
		t.Errorf("%s: what is answered shares memory", what)
	}
}

// arraysOf are all arrays that names and a program have.
func arraysOf(env api.Env, p api.Program) []api.Arr {
	out := slices.Clone(env.Vals)
	every(&p.Expr, func(n *api.Node) { out = append(out, n.Lit) })
	return out
}

// sharers are programs whose values are, or hold, what names and literals have.
func sharers() []evalCase {
	a, b, twoBoxes := nums(1, 2, 3), bothKinds(), list(box(nums(1, 2)), box(nums(1, 2)))
	return []evalCase{
		{"1 2 3", a, 1, 0},
		{"'abc'", text("abc"), 1, 0},
		{"a", a, 1, 0},
		{"b", b, 1, 0},
		{"{⍵}b", b, 4, 0},
		{"{⍵}1 2 3", a, 4, 0},
		{"({⍵+⍵}⍣0)b", b, 3, 0},
		{"({⍵}⍣3)b", b, 3 + 3*2, 0},
		{"b{((⊂⍺),⊂⍵)[1]}7", atom(box(b)), 15, 0},
		{"+⌿1 2⍴b", b, 6, 0},
		{"+⍀1 2⍴b", with([]int{1, 2}, b.Cells...), 6, 0},
		{"2⍴⊂1 2", twoBoxes, 6, 0},
		{"1 1⌷,⊂1 2", twoBoxes, 8, 0},
		{"(,⊂1 2)[1 1]", twoBoxes, 8, 0},
		{"2/⊂1 2", twoBoxes, 6, 0},
		{",⍨⊂1 2", twoBoxes, 6, 0},
		{"2↑1↓9,,⍨⊂1 2", twoBoxes, 15, 0},
	}
}

// TestOwn: R3, what is told shares nothing with the names or the program, nor in itself, nor with another answer.
func TestOwn(t *testing.T) {
	for _, c := range append(sharers(), rightCases()...) {
		env, p := names(), read(t, c.text)
		expectEval(t, env, c)
		got, _, _ := aeval.Eval(env, p, most, most)
		expectOwn(t, c.text, got, arraysOf(env, p)...)
		again, _, _ := aeval.Eval(env, p, most, most)
		expectOwn(t, c.text+", and another answer", again, got)
	}
}

// TestStays: R3, what comes in stays as it was, whatever comes of it; and what is answered, as it was, when that is changed.
func TestStays(t *testing.T) {
	for _, c := range append(sharers(), allCases()...) {
		env, p := names(), read(t, c.text)
		wasEnv, wasNode := copyEnv(env), copyNode(p.Expr)
		for _, room := range []int{0, 3, most} {
			for _, fuel := range []int{0, c.steps - 1, most} {
				aeval.Eval(env, p, fuel, room)
				if !alikeEnv(env, wasEnv) || !alikeNode(p.Expr, wasNode) {
					t.Fatalf("%s: changed", c.text)
				}
			}
		}
		got, _, _ := aeval.Eval(env, p, most, most)
		was := copyArr(got)
		for _, a := range arraysOf(env, p) {
			spoil(a)
		}
		if !alike(got, was) {
			t.Errorf("%s: the answer hangs on what came in", c.text)
		}
	}
}

// spoil changes all that an array has.
func spoil(a api.Arr) {
	for i := range a.Shape {
		a.Shape[i] = -99
	}
	for i, c := range a.Cells {
		for _, within := range c.Box {
			spoil(within)
		}
		a.Cells[i] = sign(-99)
	}
}

// longer is an array with something behind each of its lists' lengths.
func longer(a api.Arr) api.Arr {
	out := api.Arr{Shape: append(slices.Clone(a.Shape), -9)[:len(a.Shape)]}
	for _, c := range a.Cells {
		for _, within := range c.Box {
			c.Box = append([]api.Arr{longer(within)}, nums(8, 8, 8))[:1]
		}
		out.Cells = append(out.Cells, c)
	}
	out.Cells = append(out.Cells, box(nums(7)))[:len(a.Cells)]
	return out
}

// isLonger tells whether what lies behind an array's lists is still as longer put it there.
func isLonger(a api.Arr) bool {
	axes, cells := len(a.Shape), len(a.Cells)
	ok := a.Shape[:axes+1][axes] == -9 && alikeCell(a.Cells[:cells+1][cells], box(nums(7)))
	for _, c := range a.Cells {
		for _, within := range c.Box {
			ok = ok && isLonger(within) && alike(c.Box[:2][1], nums(8, 8, 8))
		}
	}
	return ok
}

// TestBehind: R3, what lies behind a list's length plays no part, is not handed out, and stays.
func TestBehind(t *testing.T) {
	for _, c := range append(sharers(), allCases()...) {
		env, p := names(), read(t, c.text)
		for i, a := range env.Vals {
			env.Vals[i] = longer(a)
		}
		every(&p.Expr, func(n *api.Node) {
			if n.Kind == api.NLit {
				n.Lit = longer(n.Lit)
			}
			n.Kids = append(slices.Clone(n.Kids), api.Node{Kind: -9})[:len(n.Kids)]
		})
		env.Names = append(env.Names, "none")[:len(env.Names)]
		env.Vals = append(env.Vals, nums(9))[:len(env.Vals)]
		expectProgram(t, c.text, env, p, c, most, most)
		got, _, _ := aeval.Eval(env, p, most, most)
		expectOwn(t, c.text, got, arraysOf(env, p)...)
		for _, a := range env.Vals {
			if !isLonger(a) {
				t.Fatalf("%s: what lies behind a value was changed", c.text)
			}
		}
		every(&p.Expr, func(n *api.Node) {
			if n.Kind == api.NLit && !isLonger(n.Lit) || n.Kids[:len(n.Kids)+1][len(n.Kids)].Kind != -9 {
				t.Fatalf("%s: what lies behind in the program was changed", c.text)
			}
		})
	}
}

// TestNil: R3, a list that is nil and one without elements are the same.
func TestNil(t *testing.T) {
	for _, shape := range [][]int{nil, {}} {
		for _, kids := range [][]api.Node{nil, {}} {
			p := api.Program{Expr: api.Node{Kind: api.NLit, Lit: api.Arr{Shape: shape, Cells: num(5).Cells}, Kids: kids}}
			expectProgram(t, "an atom", api.Env{Names: []string{}, Vals: []api.Arr{}}, p, evalCase{"", num(5), 1, 0}, 1, 1)
		}
	}
	for _, cells := range [][]api.Cell{nil, {}} {
		p := api.Program{Origin: 1, Expr: api.Node{Kind: api.NLit, Lit: api.Arr{Shape: []int{0}, Cells: cells}}}
		expectProgram(t, "no cells", api.Env{}, p, evalCase{"", nums(), 1, 0}, 1, 0)
	}
	for _, env := range []api.Env{{}, {Names: []string{}}, {Vals: []api.Arr{}}} {
		expectOnce(t, env, evalCase{"a", none, 1, api.ErrValue}, 1, 1)
	}
}
