package run_test

import (
	"math/rand"
	"slices"
	"testing"

	"triglyph/api"
	"triglyph/arr"
	"triglyph/core"
	"triglyph/fold"
	"triglyph/run"
)

// event is one of those at which a meter is asked: a step, or so many cells that are to be held.
type event struct {
	step  bool
	cells int
}

// history says 11.2 to 11.4 another way: a program is done without any bound, what is to do next lying on a pile and the values on another one, and what a meter would be asked is written down.
type history struct {
	env    api.Env
	todo   []task
	values []api.Arr
	events []event
	err    api.Errno
}

// task is a node to be done: as an expression (0), or as a function of so many of the last values, the left one uppermost.
type task struct {
	n         api.Node
	arguments int
	within    []api.Arr // a text's right argument, and behind it the left one
}

// historyOf does a program that may be; false, if that takes too long.
func historyOf(env api.Env, n api.Node) (*history, bool) {
	h := &history{env: env, todo: []task{{n: n}}}
	for len(h.todo) > 0 && h.err == api.OK {
		if len(h.events) > 3000 {
			return nil, false
		}
		next := h.todo[len(h.todo)-1]
		h.todo = h.todo[:len(h.todo)-1]
		h.events = append(h.events, event{step: true})
		if next.arguments == 0 {
			h.expression(next)
		} else {
			h.function(next)
		}
	}
	return h, true
}

// push puts tasks on the pile, so that the last one is done first.
func (h *history) push(l ...task) { h.todo = append(h.todo, l...) }

// pop takes a value from the pile.
func (h *history) pop() api.Arr {
	last := len(h.values) - 1
	out := h.values[last]
	h.values = h.values[:last]
	return out
}

// came puts a value on the pile; held: that it is to be held is written down.
func (h *history) came(a api.Arr, e api.Errno, held bool) {
	if h.err = e; e != api.OK {
		return
	}
	if held {
		h.events = append(h.events, event{cells: plainCells(a)})
	}
	h.values = append(h.values, a)
}

// plainCells is how many cells there are: all of its own, and those of all that lies in them.
func plainCells(a api.Arr) int {
	n, waiting := 0, []api.Arr{a}
	for len(waiting) > 0 {
		last := waiting[len(waiting)-1]
		waiting = waiting[:len(waiting)-1]
		for _, c := range last.Cells {
			n++
			waiting = append(waiting, c.Box...)
		}
	}
	return n
}

func (h *history) expression(t task) {
	n := t.n
	switch n.Kind {
	case api.NLit:
		h.came(n.Lit, api.OK, true)
	case api.NVar:
		h.name(n.Name)
	case api.NLeft:
		h.came(t.within[1], api.OK, false)
	case api.NRight:
		h.came(t.within[0], api.OK, false)
	case api.NMo:
		h.push(task{n: n.Kids[0], arguments: 1}, task{n: n.Kids[1], within: t.within})
	case api.NDy:
		h.push(task{n: n.Kids[0], arguments: 2}, task{n: n.Kids[1], within: t.within}, task{n: n.Kids[2], within: t.within})
	}
}

func (h *history) name(s string) {
	for i, other := range h.env.Names[:min(len(h.env.Names), len(h.env.Vals))] {
		if other == s {
			e := api.OK
			if arr.Check(h.env.Vals[i]) != api.OK {
				e = api.ErrArg
			}
			h.came(h.env.Vals[i], e, true)
			return
		}
	}
	h.err = api.ErrValue
}

func (h *history) function(t task) {
	f, values := t.n, []api.Arr{}
	for range t.arguments {
		values = append(values, h.pop())
	}
	x, y := values[0], values[len(values)-1]
	switch {
	case f.Kind == api.NPrim && t.arguments == 1:
		out, e := placeOne(f.Op)(f.Op, x)
		h.came(out, e, true)
	case f.Kind == api.NPrim:
		out, e := placeTwo(f.Op)(f.Op, x, y)
		h.came(out, e, true)
	case f.Kind == api.NLam1:
		h.push(task{n: f.Kids[0], within: []api.Arr{x}})
	case f.Kind == api.NLam2:
		h.push(task{n: f.Kids[0], within: []api.Arr{y, x}})
	case f.Kind == api.NComm:
		h.values = append(h.values, x, y)
		h.push(task{n: f.Kids[0], arguments: 2})
	case f.Kind == api.NPow:
		h.values = append(h.values, x)
		h.push(slices.Repeat([]task{{n: f.Kids[0], arguments: 1}}, f.Op)...)
	default:
		out, e := plainFold(f, x, y)
		h.came(out, e, true)
	}
}

// plainFold is a function put between items.
func plainFold(f api.Node, x, y api.Arr) (api.Arr, api.Errno) {
	by := fold.F{Op: f.Kids[0].Op}
	if f.Kids[0].Kind == api.NComm {
		by = fold.F{Op: f.Kids[0].Kids[0].Op, Turned: true}
	}
	if f.Kind == api.NOuter {
		return fold.Outer(by, x, y)
	}
	do := map[int]func(f fold.F, a api.Arr, last bool) (api.Arr, api.Errno){api.NRedF: fold.Red, api.NRedL: fold.Red, api.NScanF: fold.Scan, api.NScanL: fold.Scan}
	return do[f.Kind](by, x, f.Kind == api.NRedL || f.Kind == api.NScanL)
}

// with is what comes of the program with a meter of so many steps and cells.
func (h *history) with(fuel, room int) (api.Arr, int, api.Errno) {
	used := 0
	for _, e := range h.events {
		switch {
		case e.step && used >= fuel:
			return api.Arr{}, used, api.ErrFuel
		case e.step:
			used++
		case e.cells > max(room, 0):
			return api.Arr{}, used, api.ErrCells
		}
	}
	if h.err != api.OK {
		return api.Arr{}, used, h.err
	}
	return h.values[0], used, api.OK
}

// steps is how many there were; rooms are those at which what comes may change.
func (h *history) steps() int {
	n := 0
	for _, e := range h.events {
		if e.step {
			n++
		}
	}
	return n
}

func (h *history) rooms() []int {
	out := []int{least, -1, 0, most}
	for _, e := range h.events {
		if !e.step {
			out = append(out, e.cells, e.cells-1)
		}
	}
	slices.Sort(out)
	return slices.Compact(out)
}

// chance makes programs by chance, such as often come to a value.
type chance struct{ *rand.Rand }

// pick is one of some numbers.
func (r chance) pick(l ...int) int { return l[r.Intn(len(l))] }

// leaf is an expression without parts, in a text that has such arguments.
func (r chance) leaf(arguments ...api.Node) api.Node {
	all := append([]api.Node{lit(int64(r.Intn(4))), lit(-1), lit(1, 0), lit(2, 3, 1), lit(), name("a"), name("b"), name("tab")}, arguments...)
	if r.Intn(20) == 0 {
		all = []api.Node{name("none"), name("wrong"), name("c"), name("rows"), name("cols"), name("deep"), value(text("ab"))}
	}
	all = append(all, append(arguments, arguments...)...)
	return all[r.Intn(len(all))]
}

// expression is one with so many calls within one another at most.
func (r chance) expression(deep int, arguments ...api.Node) api.Node {
	switch {
	case deep <= 0 || r.Intn(6) == 0:
		return r.leaf(arguments...)
	case r.Intn(2) == 0:
		return mo(r.one(deep-1), r.expression(deep-1, arguments...))
	}
	return dy(r.two(deep-1), r.expression(deep-1, arguments...), r.expression(deep-1, arguments...))
}

// scalar is a primitive that goes cell by cell; between a function for between items.
func (r chance) scalar() api.Node { return prim(api.Add + r.Intn(api.Ge-api.Add+1)) }

func (r chance) between() api.Node {
	if r.Intn(2) == 0 {
		return comm(r.scalar())
	}
	return r.scalar()
}

// lambda is a function of one by a text, both one of two.
func (r chance) lambda(deep int) api.Node { return lam1(r.expression(deep, right())) }

func (r chance) both(deep int) api.Node {
	x := r.expression(deep, left(), right())
	return lam2(two(r.pick(api.CatF, api.Add, api.Take, api.Ge), two(r.pick(api.CatL, api.Sub, api.Reshape), left(), right()), x))
}

// one is a function of one argument.
func (r chance) one(deep int) api.Node {
	switch r.Intn(8) {
	case 0:
		return r.lambda(deep)
	case 1, 2:
		return node(folds()[r.Intn(4)], r.between())
	case 3:
		return comm(r.turnable(deep))
	case 4:
		return power(r.pick(0, 1, 2, 5), r.lambda(deep))
	}
	return prim(1 + r.Intn(19))
}

// turnable is a function that may be turned.
func (r chance) turnable(deep int) api.Node {
	switch r.Intn(4) {
	case 0:
		return r.both(deep)
	case 1:
		return prim(r.pick(api.Reshape, api.Take, api.Drop, api.RotF, api.RotL, api.CatF, api.CatL, api.IndexOf, api.Member, api.RepF, api.RepL, api.Div))
	}
	return r.scalar()
}

// two is a function of two arguments.
func (r chance) two(deep int) api.Node {
	switch r.Intn(6) {
	case 0:
		return outer(r.between())
	case 1:
		return comm(r.turnable(deep))
	case 2:
		return prim(r.pick(api.From, api.At, api.CatF, api.CatL, api.Reshape))
	}
	return r.turnable(deep)
}

// expectHistory holds what a program comes to against its history, with such fuel and room.
func expectHistory(t *testing.T, h *history, n api.Node, fuel, room int) {
	t.Helper()
	want, wantUsed, wantErr := h.with(fuel, room)
	got, used, e := run.Eval(h.env, n, fuel, room)
	if !alike(got, want) || used != wantUsed || e != wantErr {
		t.Fatalf("%v, fuel %d, room %d: %v, %d, %v; want %v, %d, %v", n, fuel, room, short(got), used, e, short(want), wantUsed, wantErr)
	}
}

// 11.2 to 11.6: programs by chance, with each fuel and each room at which something may change, held against their histories.
func TestChance(t *testing.T) {
	r := chance{rand.New(rand.NewSource(11))}
	env := names()
	counts := map[api.Errno]int{}
	for range 30000 {
		n := r.expression(1 + r.Intn(5))
		h, ok := historyOf(env, n)
		if core.Check(n) != api.OK || !ok {
			continue
		}
		counts[h.err]++
		rooms, steps := h.rooms(), h.steps()
		for _, room := range rooms {
			for _, fuel := range []int{steps, most, r.Intn(steps + 1)} {
				expectHistory(t, h, n, fuel, room)
			}
		}
		for fuel := -1; fuel < min(steps, 40); fuel++ {
			expectHistory(t, h, n, fuel, most)
			expectHistory(t, h, n, fuel, rooms[r.Intn(len(rooms))])
		}
		expectHistory(t, h, n, steps-1, most)
		expectHistory(t, h, n, steps+1, most)
	}
	for _, e := range []api.Errno{api.OK, api.ErrArg, api.ErrValue, api.ErrDomain, api.ErrRank, api.ErrLength, api.ErrIndex, api.ErrNonce} {
		if counts[e] < 20 {
			t.Errorf("too few programs come to %v: %v", e, counts)
		}
	}
	if counts[api.OK] < 8000 {
		t.Errorf("too few programs come to a value: %v", counts)
	}
}

// 11.2 to 11.6: the written-out programs, with all fuel and room.
func TestCasesAsHistories(t *testing.T) {
	for _, c := range append(allCases(), sharers()...) {
		h, ok := historyOf(names(), c.n)
		if !ok {
			continue
		}
		for _, room := range h.rooms() {
			for fuel := range min(h.steps()+2, 60) {
				expectHistory(t, h, c.n, fuel, room)
			}
			expectHistory(t, h, c.n, most, room)
		}
	}
}

// 11.6, P5: what came with some fuel and room, but for want of these, comes with more of both, in as many steps; and no more steps are taken than there is fuel, nor is there an answer of more cells than there is room for.
func TestMore(t *testing.T) {
	env := names()
	for _, c := range append(allCases(), sharers()...) {
		fuels := []int{-1, 0, 1, c.steps - 1, c.steps, c.steps + 1, c.steps * 2, most}
		rooms := []int{-1, 0, 1, 2, 3, 4, 5, 6, 9, 12, 20, full, most}
		for _, fuel := range fuels {
			for _, room := range rooms {
				got, used, e := run.Eval(env, c.n, fuel, room)
				if used > max(fuel, 0) || plainCells(got) > max(room, 0) {
					t.Fatalf("%s: fuel %d, room %d: %d steps, %d cells", c.what, fuel, room, used, plainCells(got))
				}
				if e == api.ErrFuel || e == api.ErrCells {
					continue
				}
				for _, more := range fuels {
					for _, wider := range rooms {
						if more >= fuel && wider >= room {
							expectOnce(t, env, evalCase{c.what, c.n, got, used, e}, more, wider)
						}
					}
				}
			}
		}
	}
}
