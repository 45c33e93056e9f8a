package aeval

import (
	"triglyph/api"
	"triglyph/engine"
)

// machine does programs that can be texts: apl.Print was asked, so a kind of expression that is not looked for can't come.
type machine struct {
	engine.Engine
	origin       int
	ofOne, ofTwo map[string]int // which primitive a sign is
	folds        map[string]folding
}

// arguments is what NLeft and NRight are in a function's text.
type arguments struct {
	left, right api.Arr
}

// value is what an expression comes to, in a text with such arguments.
func (m *machine) value(n api.Node, within arguments) (api.Arr, api.Errno) {
	if e := m.Step(); e != api.OK {
		return api.Arr{}, e
	}
	switch n.Kind {
	case api.NLit:
		return m.Held(n.Lit, api.OK)
	case api.NVar:
		return m.Named(n.Name)
	case api.NLeft:
		return within.left, api.OK
	case api.NRight:
		return within.right, api.OK
	case api.NMo:
		return m.callOfOne(n.Kids[0], n.Kids[1], within)
	case api.NIndex:
		return m.index(n.Kids[0], n.Kids[1], within)
	}
	return m.callOfTwo(n.Kids[0], n.Kids[1], n.Kids[2], within)
}

// values is what two expressions come to; the right one is done first.
func (m *machine) values(left, right api.Node, within arguments) (x, y api.Arr, e api.Errno) {
	if y, e = m.value(right, within); e != api.OK {
		return api.Arr{}, api.Arr{}, e
	}
	if x, e = m.value(left, within); e != api.OK {
		return api.Arr{}, api.Arr{}, e
	}
	return x, y, api.OK
}

// callOfOne is a function of an expression's value.
func (m *machine) callOfOne(f, right api.Node, within arguments) (api.Arr, api.Errno) {
	x, e := m.value(right, within)
	if e != api.OK {
		return api.Arr{}, e
	}
	return m.one(f, x)
}

// callOfTwo is a function of two expressions' values.
func (m *machine) callOfTwo(f, left, right api.Node, within arguments) (api.Arr, api.Errno) {
	x, y, e := m.values(left, right, within)
	if e != api.OK {
		return api.Arr{}, e
	}
	return m.two(f, x, y)
}

// index is the items of a list that what stands in its square brackets says.
func (m *machine) index(list, which api.Node, within arguments) (api.Arr, api.Errno) {
	a, at, e := m.values(list, which, within)
	if e != api.OK {
		return api.Arr{}, e
	}
	if e := m.Step(); e != api.OK {
		return api.Arr{}, e
	}
	if len(a.Shape) != 1 {
		return api.Arr{}, api.ErrRank
	}
	return m.Held(m.items(at, a))
}

// one is what a function makes of one argument.
func (m *machine) one(f api.Node, x api.Arr) (api.Arr, api.Errno) {
	if e := m.Step(); e != api.OK {
		return api.Arr{}, e
	}
	switch f.Kind {
	case api.NPrim:
		return m.Held(m.signOfOne(f.Name, x))
	case api.NLam1:
		return m.value(f.Kids[0], arguments{right: x})
	case api.NPow:
		again := func(x api.Arr) (api.Arr, api.Errno) { return m.one(f.Kids[0], x) }
		return engine.Often(f.Op, again, x)
	case api.NAdv:
		return m.madeOfOne(f.Name, f.Kids[0], x)
	}
	return api.Arr{}, api.ErrNonce
}

// two is what a function makes of two arguments.
func (m *machine) two(f api.Node, x, y api.Arr) (api.Arr, api.Errno) {
	if e := m.Step(); e != api.OK {
		return api.Arr{}, e
	}
	switch f.Kind {
	case api.NPrim:
		return m.Held(m.signOfTwo(f.Name, x, y))
	case api.NLam2:
		return m.value(f.Kids[0], arguments{left: x, right: y})
	case api.NAdv:
		return m.madeOfTwo(f.Name, f.Kids[0], x, y)
	case api.NOuter:
		return m.Held(m.outer(f.Kids[0], x, y))
	}
	return api.Arr{}, api.ErrNonce
}
