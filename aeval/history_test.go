package aeval_test

import (
	"math"
	"slices"
	"testing"

	"triglyph/aeval"
	"triglyph/api"
	"triglyph/arr"
	"triglyph/atomic"
	"triglyph/fold"
	"triglyph/layout"
	"triglyph/pick"
	"triglyph/seek"
)

// event is one of those at which a meter is asked: a step, or so many cells that are to be held.
type event struct {
	step  bool
	cells int
}

// history says 20.1 to 20.3 another way: a program is done without any bound, what is to do next lying on a pile and the values on another one, and what a meter would be asked is written down.
type history struct {
	env    api.Env
	origin int64
	todo   []task
	values []api.Arr
	events []event
	err    api.Errno
}

// task is a node to be done: as an expression (0), or as a function, square brackets among them, of so many of the last values, the left one uppermost.
type task struct {
	n         api.Node
	arguments int
	within    []api.Arr // a text's right argument, and behind it the left one
}

// historyOf does a program that can be a text; false, if that takes too long, or comes to too much.
func historyOf(env api.Env, p api.Program) (*history, bool) {
	h := &history{env: env, origin: int64(p.Origin), todo: []task{{n: p.Expr}}}
	for len(h.todo) > 0 && h.err == api.OK {
		if many := len(h.events); many > 3000 || many > 0 && h.events[many-1].cells > 1<<16 {
			return nil, false
		}
		next := h.todo[len(h.todo)-1]
		h.todo = h.todo[:len(h.todo)-1]
		h.events = append(h.events, event{step: true})
		switch next.arguments {
		case 0:
			h.expression(next)
		case 1:
			h.ofOne(next.n, h.pop())
		default:
			h.ofTwo(next.n, h.pop(), h.pop())
		}
	}
	return h, true
}

// push puts tasks on the pile, so that the last one is done first.
func (h *history) push(l ...task) { h.todo = append(h.todo, l...) }

// pop takes a value from the pile.
func (h *history) pop() api.Arr {
	last := len(h.values) - 1
	out := h.values[last]
	h.values = h.values[:last]
	return out
}

// came puts a value that is to be held on the pile.
func (h *history) came(a api.Arr, e api.Errno) {
	if h.err = e; e == api.OK {
		h.events = append(h.events, event{cells: cellsOf(a)})
		h.values = append(h.values, a)
	}
}

func (h *history) expression(t task) {
	n := t.n
	switch n.Kind {
	case api.NLit:
		h.came(n.Lit, api.OK)
	case api.NVar:
		h.name(n.Name)
	case api.NLeft:
		h.values = append(h.values, t.within[1])
	case api.NRight:
		h.values = append(h.values, t.within[0])
	case api.NMo:
		h.push(task{n: n.Kids[0], arguments: 1}, task{n: n.Kids[1], within: t.within})
	case api.NDy:
		h.push(task{n: n.Kids[0], arguments: 2}, task{n: n.Kids[1], within: t.within}, task{n: n.Kids[2], within: t.within})
	case api.NIndex:
		h.push(task{n: n, arguments: 2}, task{n: n.Kids[0], within: t.within}, task{n: n.Kids[1], within: t.within})
	}
}

func (h *history) name(s string) {
	for i, other := range h.env.Names[:min(len(h.env.Names), len(h.env.Vals))] {
		if other == s {
			e := api.OK
			if arr.Check(h.env.Vals[i]) != api.OK {
				e = api.ErrArg
			}
			h.came(h.env.Vals[i], e)
			return
		}
	}
	h.err = api.ErrValue
}

// primitive is what a sign stands for: a function of a layer by its number there, and whether what comes is counted.
type primitive struct {
	do      func(op int, x, y api.Arr) (api.Arr, api.Errno)
	op      int
	counted bool
}

// unary is a layer's function of one argument, as if it had a left one.
func unary(do func(op int, a api.Arr) (api.Arr, api.Errno)) func(op int, x, y api.Arr) (api.Arr, api.Errno) {
	return func(op int, _, y api.Arr) (api.Arr, api.Errno) { return do(op, y) }
}

// itsOne and itsTwo are 20.2's list and 20.3's, without ⌷.
var itsOne, itsTwo = plainOne(), plainTwo()

func plainOne() map[string]primitive {
	a, l, s := unary(atomic.Mo), unary(layout.Mo), unary(seek.Mo)
	return map[string]primitive{
		"-": {a, 1, false}, "×": {a, 2, false}, "|": {a, 3, false}, "~": {a, 4, false}, "÷": {a, 19, false},
		"⍳": {l, 5, true}, "⍴": {l, 6, false}, "≢": {l, 7, false}, ",": {l, 8, false}, "⊖": {l, 9, false}, "⌽": {l, 10, false}, "⍉": {l, 11, false}, "⊂": {l, 15, false}, "⊃": {l, 16, false},
		"⍋": {s, 12, true}, "⍒": {s, 13, true}, "∪": {s, 14, false},
	}
}

func plainTwo() map[string]primitive {
	reshape := func(_ int, x, y api.Arr) (api.Arr, api.Errno) { return layout.Reshape(x, y) }
	out := map[string]primitive{
		"÷": {atomic.Dy, 54, false}, "⍴": {reshape, 0, false}, "⍳": {seek.Dy, 48, true}, "∊": {seek.Dy, 49, false},
		"↑": {pick.Dy, 42, false}, "↓": {pick.Dy, 43, false}, "⊖": {pick.Dy, 44, false}, "⌽": {pick.Dy, 45, false},
		"⍪": {pick.Dy, 46, false}, ",": {pick.Dy, 47, false}, "⌿": {pick.Dy, 50, false}, "/": {pick.Dy, 51, false},
	}
	for i, sign := range cellwise() {
		out[sign] = primitive{atomic.Dy, 21 + i, false}
	}
	return out
}

// cellwise are the signs that go cell by cell.
func cellwise() []string {
	return []string{"+", "-", "×", "⌊", "⌈", "|", "=", "≠", "<", ">", "≤", "≥"}
}

// prim does a sign's primitive, ErrNonce, if it is none.
func (h *history) prim(table map[string]primitive, sign string, x, y api.Arr) {
	p, ok := table[sign]
	if !ok {
		h.err = api.ErrNonce
		return
	}
	out, e := p.do(p.op, x, y)
	if p.counted && e == api.OK {
		for i := range out.Cells {
			out.Cells[i].N += h.origin
		}
	}
	h.came(out, e)
}

// items are an array's items that numbers say.
func (h *history) items(which, a api.Arr) {
	shifted := copyArr(which)
	for i, c := range shifted.Cells {
		switch {
		case h.origin == 0:
		case c.Kind != api.CInt:
			h.err = api.ErrDomain
			return
		case c.N == math.MinInt64:
			h.err = api.ErrOverflow
			return
		}
		shifted.Cells[i].N -= h.origin
	}
	h.came(pick.Dy(api.From, shifted, a))
}

func (h *history) ofOne(f api.Node, x api.Arr) {
	switch {
	case f.Kind == api.NPrim:
		h.prim(itsOne, f.Name, api.Arr{}, x)
	case f.Kind == api.NLam1:
		h.push(task{n: f.Kids[0], within: []api.Arr{x}})
	case f.Kind == api.NPow:
		h.values = append(h.values, x)
		h.push(slices.Repeat([]task{{n: f.Kids[0], arguments: 1}}, f.Op)...)
	case f.Kind == api.NAdv && f.Name == "⍨":
		h.values = append(h.values, x, x)
		h.push(task{n: f.Kids[0], arguments: 2})
	case f.Kind == api.NAdv:
		by, ok := plainBetween(f.Kids[0])
		if h.err = api.ErrNonce; ok {
			do := map[string]func(f fold.F, a api.Arr, last bool) (api.Arr, api.Errno){"/": fold.Red, "⌿": fold.Red, "\\": fold.Scan, "⍀": fold.Scan}
			h.came(do[f.Name](by, x, f.Name == "/" || f.Name == "\\"))
		}
	default:
		h.err = api.ErrNonce
	}
}

func (h *history) ofTwo(f api.Node, x, y api.Arr) {
	switch {
	case f.Kind == api.NIndex && len(x.Shape) != 1:
		h.err = api.ErrRank
	case f.Kind == api.NIndex:
		h.items(y, x)
	case f.Kind == api.NPrim && f.Name == "⌷":
		h.items(x, y)
	case f.Kind == api.NPrim:
		h.prim(itsTwo, f.Name, x, y)
	case f.Kind == api.NLam2:
		h.push(task{n: f.Kids[0], within: []api.Arr{y, x}})
	case f.Kind == api.NAdv && f.Name == "⍨":
		h.values = append(h.values, x, y)
		h.push(task{n: f.Kids[0], arguments: 2})
	case f.Kind == api.NOuter:
		by, ok := plainBetween(f.Kids[0])
		if h.err = api.ErrNonce; ok {
			h.came(fold.Outer(by, x, y))
		}
	default:
		h.err = api.ErrNonce
	}
}

// plainBetween is a function for between items, if it is one.
func plainBetween(f api.Node) (fold.F, bool) {
	is := func(f api.Node) bool { return f.Kind == api.NPrim && slices.Contains(cellwise(), f.Name) }
	op := func(f api.Node) int { return 21 + slices.Index(cellwise(), f.Name) }
	switch {
	case is(f):
		return fold.F{Op: op(f)}, true
	case f.Kind == api.NAdv && f.Name == "⍨" && is(f.Kids[0]):
		return fold.F{Op: op(f.Kids[0]), Turned: true}, true
	}
	return fold.F{}, false
}

// with is what comes of the program with a meter of so many steps and cells.
func (h *history) with(fuel, room int) (api.Arr, int, api.Errno) {
	used := 0
	for _, e := range h.events {
		switch {
		case e.step && used >= fuel:
			return api.Arr{}, used, api.ErrFuel
		case e.step:
			used++
		case e.cells > max(room, 0):
			return api.Arr{}, used, api.ErrCells
		}
	}
	if h.err != api.OK {
		return api.Arr{}, used, h.err
	}
	return h.values[0], used, api.OK
}

// steps is how many there were; rooms are those at which what comes may change.
func (h *history) steps() int {
	n := 0
	for _, e := range h.events {
		if e.step {
			n++
		}
	}
	return n
}

func (h *history) rooms() []int {
	out := []int{least, -1, 0, most}
	for _, e := range h.events {
		if !e.step {
			out = append(out, e.cells, e.cells-1)
		}
	}
	slices.Sort(out)
	return slices.Compact(out)
}

// expectHistory holds what a program comes to against its history, with such fuel and room.
func expectHistory(t *testing.T, h *history, p api.Program, fuel, room int) {
	t.Helper()
	want, wantUsed, wantErr := h.with(fuel, room)
	got, used, e := aeval.Eval(h.env, p, fuel, room)
	if !alike(got, want) || used != wantUsed || e != wantErr {
		t.Fatalf("%s, fuel %d, room %d: %v, %d, %v; want %v, %d, %v", printed(p), fuel, room, short(got), used, e, short(want), wantUsed, wantErr)
	}
}
