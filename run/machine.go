package run

import (
	"slices"

	"triglyph/api"
	"triglyph/arr"
	"triglyph/fold"
	"triglyph/meter"
)

// machine does programs that may be: core.Check was asked, so a kind that is not looked for can't come. Its values may share memory with one another, with the program and with the names; none of it is ever changed.
type machine struct {
	*meter.Meter
	env api.Env
}

// arguments is what NLeft and NRight are in a function's text.
type arguments struct {
	left, right api.Arr
}

// value is what an expression comes to, in a text with such arguments.
func (m *machine) value(n api.Node, within arguments) (api.Arr, api.Errno) {
	if e := m.Step(); e != api.OK {
		return api.Arr{}, e
	}
	switch n.Kind {
	case api.NLit:
		return m.held(n.Lit, api.OK)
	case api.NVar:
		return m.held(m.named(n.Name))
	case api.NLeft:
		return within.left, api.OK
	case api.NRight:
		return within.right, api.OK
	case api.NMo:
		return m.callOfOne(n.Kids[0], n.Kids[1], within)
	}
	return m.callOfTwo(n.Kids[0], n.Kids[1], n.Kids[2], within)
}

// callOfOne is a function of an expression's value.
func (m *machine) callOfOne(f, right api.Node, within arguments) (api.Arr, api.Errno) {
	x, e := m.value(right, within)
	if e != api.OK {
		return api.Arr{}, e
	}
	return m.one(f, x)
}

// callOfTwo is a function of two expressions' values; the right one is done first.
func (m *machine) callOfTwo(f, left, right api.Node, within arguments) (api.Arr, api.Errno) {
	y, e := m.value(right, within)
	if e != api.OK {
		return api.Arr{}, e
	}
	x, e := m.value(left, within)
	if e != api.OK {
		return api.Arr{}, e
	}
	return m.two(f, x, y)
}

// one is what a function makes of one argument.
func (m *machine) one(f api.Node, x api.Arr) (api.Arr, api.Errno) {
	if e := m.Step(); e != api.OK {
		return api.Arr{}, e
	}
	switch f.Kind {
	case api.NPrim:
		return m.held(One(f.Op, x))
	case api.NLam1:
		return m.value(f.Kids[0], arguments{right: x})
	case api.NComm:
		return m.two(f.Kids[0], x, x)
	case api.NPow:
		return m.often(f.Op, f.Kids[0], x)
	}
	return m.held(folded(f.Kind, between(f.Kids[0]), x))
}

// two is what a function makes of two arguments.
func (m *machine) two(f api.Node, x, y api.Arr) (api.Arr, api.Errno) {
	if e := m.Step(); e != api.OK {
		return api.Arr{}, e
	}
	switch f.Kind {
	case api.NPrim:
		return m.held(sparing(f.Op, x, y))
	case api.NLam2:
		return m.value(f.Kids[0], arguments{left: x, right: y})
	case api.NComm:
		return m.two(f.Kids[0], y, x)
	}
	return m.held(fold.Outer(between(f.Kids[0]), x, y))
}

// often is a function done so many times, one upon the other.
func (m *machine) often(times int, f api.Node, x api.Arr) (api.Arr, api.Errno) {
	for range times {
		next, e := m.one(f, x)
		if e != api.OK {
			return api.Arr{}, e
		}
		x = next
	}
	return x, api.OK
}

// named is what a name has.
func (m *machine) named(name string) (api.Arr, api.Errno) {
	at := slices.Index(m.env.Names, name)
	if at < 0 || at >= len(m.env.Vals) {
		return api.Arr{}, api.ErrValue
	}
	value := m.env.Vals[at]
	// Whatever is wrong with it: a rank or cells too many would be taken for what the program came to.
	if arr.Check(value) != api.OK {
		return api.Arr{}, api.ErrArg
	}
	return value, api.OK
}

// held is what came of something, if it may be held.
func (m *machine) held(a api.Arr, e api.Errno) (api.Arr, api.Errno) {
	if e == api.OK {
		e = m.Hold(a)
	}
	if e != api.OK {
		return api.Arr{}, e
	}
	return a, api.OK
}

// folded is an array folded as a kind of node says.
func folded(kind int, f fold.F, x api.Arr) (api.Arr, api.Errno) {
	switch kind {
	case api.NRedF:
		return fold.Red(f, x, false)
	case api.NRedL:
		return fold.Red(f, x, true)
	case api.NScanF:
		return fold.Scan(f, x, false)
	}
	return fold.Scan(f, x, true)
}

// between is a function for between items.
func between(f api.Node) fold.F {
	if f.Kind == api.NComm {
		return fold.F{Op: f.Kids[0].Op, Turned: true}
	}
	return fold.F{Op: f.Op}
}
