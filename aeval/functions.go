package aeval

import (
	"triglyph/api"
	"triglyph/arr"
	"triglyph/atomic"
	"triglyph/engine"
	"triglyph/fold"
	"triglyph/layout"
	"triglyph/pick"
	"triglyph/seek"
)

// signOfOne is a sign as a function of one argument.
func (m *machine) signOfOne(sign string, x api.Arr) (api.Arr, api.Errno) {
	op, known := m.ofOne[sign]
	if !known {
		return api.Arr{}, api.ErrNonce
	}
	switch op {
	case api.Neg, api.Sgn, api.Abs, api.Not, api.Recip:
		return atomic.Mo(op, x)
	case api.Iota:
		return m.counted(layout.Mo(op, x))
	case api.Up, api.Down:
		return m.counted(seek.Mo(op, x))
	case api.Uniq:
		return seek.Mo(op, x)
	}
	return layout.Mo(op, x)
}

// signOfTwo is a sign as a function of two arguments.
func (m *machine) signOfTwo(sign string, x, y api.Arr) (api.Arr, api.Errno) {
	op, known := m.ofTwo[sign]
	switch {
	case !known:
		return api.Arr{}, api.ErrNonce
	case atomic.Is(op), op == api.Div:
		return atomic.Dy(op, x, y)
	case op == api.Reshape:
		return engine.Sparing(layout.Reshape, x, y)
	case op == api.IndexOf:
		return m.counted(seek.Dy(op, x, y))
	case op == api.Member:
		return seek.Dy(op, x, y)
	case op == api.From:
		return m.items(x, y)
	}
	return picked(op, x, y)
}

// counted is places as the program counts them.
func (m *machine) counted(places api.Arr, e api.Errno) (api.Arr, api.Errno) {
	if e != api.OK {
		return api.Arr{}, e
	}
	return atomic.Dy(api.Add, arr.Atom(int64(m.origin)), places)
}

// items is an array's items that numbers say, as the program counts them.
func (m *machine) items(which, a api.Arr) (api.Arr, api.Errno) {
	// Counted from 0 nothing is taken off: Sub would tell of what is no number ahead of what pick tells.
	if m.origin == 1 {
		below, e := atomic.Dy(api.Sub, which, arr.Atom(1))
		if e != api.OK {
			return api.Arr{}, e
		}
		which = below
	}
	return picked(api.From, which, a)
}

// picked is pick.Dy, without memory for each place in which a box is laid.
func picked(op int, x, y api.Arr) (api.Arr, api.Errno) {
	do := func(x, y api.Arr) (api.Arr, api.Errno) { return pick.Dy(op, x, y) }
	return engine.Sparing(do, x, y)
}

// madeOfOne is what a sign behind a function makes of it, of one argument.
func (m *machine) madeOfOne(sign string, part api.Node, x api.Arr) (api.Arr, api.Errno) {
	if sign == turn {
		return m.two(part, x, x)
	}
	f, is := m.between(part)
	by, known := m.folds[sign]
	if !is || !known {
		return api.Arr{}, api.ErrNonce
	}
	return m.Held(by.do(f, x, by.last))
}

// madeOfTwo is likewise of two arguments.
func (m *machine) madeOfTwo(sign string, part api.Node, x, y api.Arr) (api.Arr, api.Errno) {
	if sign != turn {
		return api.Arr{}, api.ErrNonce
	}
	return m.two(part, y, x)
}

// outer is a function for between items of each cell with each.
func (m *machine) outer(part api.Node, x, y api.Arr) (api.Arr, api.Errno) {
	f, is := m.between(part)
	if !is {
		return api.Arr{}, api.ErrNonce
	}
	return fold.Outer(f, x, y)
}

// between is a function for between items, if it is one: turned it may be once.
func (m *machine) between(f api.Node) (fold.F, bool) {
	turned := f.Kind == api.NAdv && f.Name == turn
	if turned {
		f = f.Kids[0]
	}
	op := m.ofTwo[f.Name]
	return fold.F{Op: op, Turned: turned}, f.Kind == api.NPrim && atomic.Is(op)
}
