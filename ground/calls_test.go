// Package ground tests what holds of all layers: that their calls stand as the document lists them, and what they import.
package ground

import (
	"testing"

	"triglyph/aeval"
	"triglyph/alex"
	"triglyph/api"
	"triglyph/apl"
	"triglyph/arr"
	"triglyph/atomic"
	"triglyph/core"
	"triglyph/fold"
	"triglyph/frag"
	"triglyph/grammar"
	"triglyph/jay"
	"triglyph/jeval"
	"triglyph/jlex"
	"triglyph/kay"
	"triglyph/keval"
	"triglyph/klex"
	"triglyph/layout"
	"triglyph/lower"
	"triglyph/meter"
	"triglyph/num"
	"triglyph/pick"
	"triglyph/raise"
	"triglyph/run"
	"triglyph/runes"
	"triglyph/seek"
	"triglyph/session"
	"triglyph/show"
	"triglyph/spell"
	"triglyph/tri"
)

type (
	numOne  = func(a int64) (int64, api.Errno)
	numTwo  = func(a, b int64) (int64, api.Errno)
	numList = func(l []int64) (int64, api.Errno)
	arrOne  = func(op int, a api.Arr) (api.Arr, api.Errno)
	arrTwo  = func(op int, a, b api.Arr) (api.Arr, api.Errno)
	lexer   = func(s string) ([]api.Token, api.Fault)
	reader  = func(s string) (api.Program, api.Fault)
	writer  = func(p api.Program) (string, api.Errno)
	doer    = func(env api.Env, p api.Program, fuel, cells int) (api.Arr, int, api.Errno)
	folder  = func(f fold.F, a api.Arr, last bool) (api.Arr, api.Errno)
)

// TestCalls: the test does not build if a call's signature is another than the chapters'.
func TestCalls(t *testing.T) {
	lowCalls()
	calculusCalls()
	dialectCalls()
	upperCalls()
}

func lowCalls() {
	_ = []numTwo{num.Add, num.Sub, num.Mul}
	_ = []numOne{num.Neg, num.Abs}
	_ = []numList{num.Sum, num.Prod}
	var _ func(a int64) int64 = num.Sgn
	var _ func(a, b int64) int64 = num.Res

	var _ func(n int64) bool = runes.Good
	var _ func(l []int64) ([]byte, api.Errno) = runes.Write
	var _ func(b []byte) (int64, int) = runes.One
	var _ func(b []byte) ([]int64, int, api.Errno) = runes.Read

	var _ func(shape []int) (int, api.Errno) = arr.Size
	var _ func(a api.Arr) api.Errno = arr.Check
	var _ func(a api.Arr) int = arr.Deep
	var _ func(a, b api.Cell) int = arr.Cell
	var _ func(a, b api.Arr) int = arr.Cmp
	var _ func(a, b api.Arr) bool = arr.Same
	var _ func(a api.Arr) api.Arr = arr.Copy
	var _ func(n int64) api.Arr = arr.Atom
	_ = []func(l []int64) api.Arr{arr.Nums, arr.Text}
	var _ func(shape, at []int) (int, api.Errno) = arr.Place
	var _ func(shape []int, n int) ([]int, api.Errno) = arr.Places
}

func calculusCalls() {
	_ = []arrOne{atomic.Mo, layout.Mo, seek.Mo, run.One}
	_ = []arrTwo{atomic.Dy, pick.Dy, seek.Dy, run.Two}
	var _ func(op int, a, b api.Cell) (api.Cell, api.Errno) = atomic.Cell
	var _ func(op int) bool = atomic.Is
	var _ func(a, b []int) ([]int, api.Errno) = atomic.Agree
	var _ func(s, a api.Arr) (api.Arr, api.Errno) = layout.Reshape

	_ = fold.F{Op: api.Add, Turned: true}
	_ = []folder{fold.Red, fold.Scan}
	var _ func(f fold.F, a, b api.Arr) (api.Arr, api.Errno) = fold.Outer

	var _ func(fuel, cells int) *meter.Meter = meter.New
	var _ func(m *meter.Meter) api.Errno = (*meter.Meter).Step
	var _ func(a api.Arr) int = meter.Cells
	var _ func(m *meter.Meter, a api.Arr) api.Errno = (*meter.Meter).Hold
	var _ func(m *meter.Meter) (used, left int) = (*meter.Meter).Used

	var _ func(s string) bool = core.Name
	var _ func(a api.Arr) bool = core.Literal
	var _ func(op int) bool = core.Scalar
	var _ func(n api.Node) api.Errno = core.Check
	var _ func(a, b api.Node) bool = core.Same
	var _ func(n api.Node) int = core.Size
	var _ func(env api.Env, n api.Node, fuel, cells int) (api.Arr, int, api.Errno) = run.Eval
}

func dialectCalls() {
	_ = []lexer{alex.Lex, jlex.Lex, klex.Lex}
	var _ func(g api.Grammar, l []api.Token, end int) (api.Node, api.Fault) = grammar.Parse
	var _ func(n int64, minus string) string = spell.Number
	var _ func(a api.Arr, g api.Grammar) (string, api.Errno) = spell.Literal
	var _ func(g api.Grammar, n api.Node) (string, api.Errno) = spell.Write

	_ = []func() api.Grammar{apl.Grammar, jay.Grammar, kay.Grammar}
	_ = []reader{apl.Parse, jay.Parse, kay.Parse}
	_ = []writer{apl.Print, jay.Print, kay.Print}
	_ = []doer{aeval.Eval, jeval.Eval, keval.Eval}
}

func upperCalls() {
	var _ func(d int, p api.Program) (api.Node, api.Fault) = lower.Lower
	var _ func(d, op int) bool = frag.Says
	var _ func(d int, n api.Node) api.Fault = frag.Fits
	var _ func(d int, n api.Node) (api.Program, api.Fault) = raise.Raise

	var _ func(d int) bool = tri.Is
	var _ func(from, to int, s string) (string, api.Fault) = tri.Translate
	var _ func(d int, env api.Env, s string, fuel, cells int) (api.Arr, string, int, api.Fault) = tri.Run
	var _ func(fuel, cells int) (int, int) = tri.Bound
	var _ func(d int, a api.Arr) (string, api.Errno) = show.Show

	var _ func(dialect, fuel, cells int) (*session.Session, api.Errno) = session.New
	var _ func(s *session.Session, text string) (string, api.Fault) = (*session.Session).Line
	var _ func(s *session.Session, text string) api.Errno = (*session.Session).Put
	var _ func(s *session.Session) (string, api.Fault, bool) = (*session.Session).Next
	var _ func(s *session.Session) int = (*session.Session).Waiting
	var _ func(s *session.Session) api.Env = (*session.Session).Env
	var _ func(s *session.Session, dialect int) (*session.Session, api.Errno) = (*session.Session).As
}
