package run

import (
	"triglyph/api"
	"triglyph/engine"
	"triglyph/fold"
)

// machine does programs that may be: core.Check was asked, so a kind that is not looked for can't come.
type machine struct {
	engine.Engine
}

// arguments is what NLeft and NRight are in a function's text.
type arguments struct {
	left, right api.Arr
}

// value is what an expression comes to, in a text with such arguments.
func (m *machine) value(n api.Node, within arguments) (api.Arr, api.Errno) {
	if e := m.Step(); e != api.OK {
		return api.Arr{}, e
	}
	switch n.Kind {
	case api.NLit:
		return m.Held(n.Lit, api.OK)
	case api.NVar:
		return m.Named(n.Name)
	case api.NLeft:
		return within.left, api.OK
	case api.NRight:
		return within.right, api.OK
	case api.NMo:
		return m.callOfOne(n.Kids[0], n.Kids[1], within)
	}
	return m.callOfTwo(n.Kids[0], n.Kids[1], n.Kids[2], within)
}

// callOfOne is a function of an expression's value.
func (m *machine) callOfOne(f, right api.Node, within arguments) (api.Arr, api.Errno) {
	x, e := m.value(right, within)
	if e != api.OK {
		return api.Arr{}, e
	}
	return m.one(f, x)
}

// callOfTwo is a function of two expressions' values; the right one is done first.
func (m *machine) callOfTwo(f, left, right api.Node, within arguments) (api.Arr, api.Errno) {
	y, e := m.value(right, within)
	if e != api.OK {
		return api.Arr{}, e
	}
	x, e := m.value(left, within)
	if e != api.OK {
		return api.Arr{}, e
	}
	return m.two(f, x, y)
}

// one is what a function makes of one argument.
func (m *machine) one(f api.Node, x api.Arr) (api.Arr, api.Errno) {
	if e := m.Step(); e != api.OK {
		return api.Arr{}, e
	}
	switch f.Kind {
	case api.NPrim:
		return m.Held(One(f.Op, x))
	case api.NLam1:
		return m.value(f.Kids[0], arguments{right: x})
	case api.NComm:
		return m.two(f.Kids[0], x, x)
	case api.NPow:
		return engine.Often(f.Op, func(x api.Arr) (api.Arr, api.Errno) { return m.one(f.Kids[0], x) }, x)
	}
	return m.Held(folded(f.Kind, between(f.Kids[0]), x))
}

// two is what a function makes of two arguments.
func (m *machine) two(f api.Node, x, y api.Arr) (api.Arr, api.Errno) {
	if e := m.Step(); e != api.OK {
		return api.Arr{}, e
	}
	switch f.Kind {
	case api.NPrim:
		return m.Held(laid(f.Op, x, y))
	case api.NLam2:
		return m.value(f.Kids[0], arguments{left: x, right: y})
	case api.NComm:
		return m.two(f.Kids[0], y, x)
	}
	return m.Held(fold.Outer(between(f.Kids[0]), x, y))
}

// laid is Two, without memory for each place in which a box is laid.
func laid(op int, x, y api.Arr) (api.Arr, api.Errno) {
	do := func(x, y api.Arr) (api.Arr, api.Errno) { return Two(op, x, y) }
	if !isFrom(op, api.Reshape, api.At) || isSought(op) {
		return do(x, y)
	}
	return engine.Sparing(do, x, y)
}

// folded is an array folded as a kind of node says.
func folded(kind int, f fold.F, x api.Arr) (api.Arr, api.Errno) {
	switch kind {
	case api.NRedF:
		return fold.Red(f, x, false)
	case api.NRedL:
		return fold.Red(f, x, true)
	case api.NScanF:
		return fold.Scan(f, x, false)
	}
	return fold.Scan(f, x, true)
}

// between is a function for between items.
func between(f api.Node) fold.F {
	if f.Kind == api.NComm {
		return fold.F{Op: f.Kids[0].Op, Turned: true}
	}
	return fold.F{Op: f.Op}
}
