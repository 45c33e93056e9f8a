// Package engine is what all that does programs has in common, of the calculus and of the dialects (11, 20): steps and room, what names have, and what becomes of values. See shared/doc/11-run.md.
package engine

import (
	"slices"

	"triglyph/api"
	"triglyph/arr"
	"triglyph/meter"
)

// Engine has the steps and the room for a program, and its names. Values may share memory with one another, with the program and with the names; none of it is ever changed.
type Engine struct {
	*meter.Meter
	env api.Env
}

// New is an engine for a program with such names, so many steps, and arrays of so many cells.
func New(env api.Env, fuel, cells int) Engine {
	return Engine{Meter: meter.New(fuel, cells), env: env}
}

// Held is what came of something, if it may be held.
func (g Engine) Held(a api.Arr, e api.Errno) (api.Arr, api.Errno) {
	if e == api.OK {
		e = g.Hold(a)
	}
	if e != api.OK {
		return api.Arr{}, e
	}
	return a, api.OK
}

// Named is what a name has.
func (g Engine) Named(name string) (api.Arr, api.Errno) {
	at := slices.Index(g.env.Names, name)
	if at < 0 || at >= len(g.env.Vals) {
		return api.Arr{}, api.ErrValue
	}
	value := g.env.Vals[at]
	// Whatever is wrong with it: a rank or cells too many would be taken for what the program came to.
	if arr.Check(value) != api.OK {
		return api.Arr{}, api.ErrArg
	}
	return g.Held(value, api.OK)
}

// Often is a function done so many times, one upon the other.
func Often(times int, do func(x api.Arr) (api.Arr, api.Errno), x api.Arr) (api.Arr, api.Errno) {
	for range times {
		next, e := do(x)
		if e != api.OK {
			return api.Arr{}, e
		}
		x = next
	}
	return x, api.OK
}

// Told is what is told of a program that came to this: also how many steps were taken.
func (g Engine) Told(a api.Arr, e api.Errno) (api.Arr, int, api.Errno) {
	used, _ := g.Used()
	if e != api.OK {
		return api.Arr{}, used, e
	}
	// Till here the value's memory may be that of the program, or of a name.
	return arr.Copy(a), used, api.OK
}
