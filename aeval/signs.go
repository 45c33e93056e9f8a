package aeval

import (
	"triglyph/api"
	"triglyph/fold"
)

// turn is the sign behind a function that exchanges its arguments.
const turn = "⍨"

// folding is how a function is put between items, and along which axis.
type folding struct {
	do   func(f fold.F, a api.Arr, last bool) (api.Arr, api.Errno)
	last bool
}

// signsOfFolds is how the signs behind a function put it between items.
func signsOfFolds() map[string]folding {
	return map[string]folding{
		"/": {fold.Red, true},
		"⌿": {fold.Red, false},
		`\`: {fold.Scan, true},
		"⍀": {fold.Scan, false},
	}
}

// signsOfOne is which primitive of one argument a sign is.
func signsOfOne() map[string]int {
	return map[string]int{
		"-": api.Neg,
		"×": api.Sgn,
		"|": api.Abs,
		"~": api.Not,
		"÷": api.Recip,
		"⍳": api.Iota,
		"⍴": api.Shape,
		"≢": api.Tally,
		",": api.Ravel,
		"⊖": api.RevF,
		"⌽": api.RevL,
		"⍉": api.Flip,
		"⊂": api.Encl,
		"⊃": api.Disc,
		"⍋": api.Up,
		"⍒": api.Down,
		"∪": api.Uniq,
	}
}

// signsOfTwo is which primitive of two arguments a sign is.
func signsOfTwo() map[string]int {
	return map[string]int{
		"+": api.Add,
		"-": api.Sub,
		"×": api.Mul,
		"⌊": api.Min,
		"⌈": api.Max,
		"|": api.Res,
		"=": api.Eq,
		"≠": api.Ne,
		"<": api.Lt,
		">": api.Gt,
		"≤": api.Le,
		"≥": api.Ge,
		"÷": api.Div,
		"⍴": api.Reshape,
		"↑": api.Take,
		"↓": api.Drop,
		"⊖": api.RotF,
		"⌽": api.RotL,
		"⍪": api.CatF,
		",": api.CatL,
		"⌿": api.RepF,
		"/": api.RepL,
		"⍳": api.IndexOf,
		"∊": api.Member,
		"⌷": api.From,
	}
}
