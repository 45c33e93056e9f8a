package aeval_test

import (
	"math"
	"testing"

	"triglyph/aeval"
	"triglyph/api"
	"triglyph/apl"
	"triglyph/arr"
)

// evalCase is a program with the names of names(), what it comes to with fuel and room enough, and in how many steps.
type evalCase struct {
	text  string
	want  api.Arr
	steps int
	err   api.Errno
}

// none is no value, beside an error.
var none = api.Arr{}

// read is the program that a text is.
func read(t *testing.T, s string) api.Program {
	t.Helper()
	p, f := apl.Parse(s)
	if f != (api.Fault{}) {
		t.Fatalf("the test's own text %s is no program: %v", s, f)
	}
	return p
}

// printed is a program as a text.
func printed(p api.Program) string {
	s, e := apl.Print(p)
	if e != api.OK {
		return "no text"
	}
	return s
}

// expectProgram holds one answer, asked for twice, against what is asked for.
func expectProgram(t *testing.T, what string, env api.Env, p api.Program, c evalCase, fuel, room int) {
	t.Helper()
	if c.err != api.OK {
		c.want = none
	}
	for range 2 {
		got, used, e := aeval.Eval(env, p, fuel, room)
		if e != c.err || used != c.steps || !alike(got, c.want) {
			t.Errorf("%s, fuel %d, room %d: %v, %d, %v; want %v, %d, %v", what, fuel, room, short(got), used, e, short(c.want), c.steps, c.err)
		}
		if check := arr.Check(got); e == api.OK && check != api.OK {
			t.Errorf("%s: what came may not be: %v", what, check)
		}
	}
}

// expectOnce is likewise of a case's text.
func expectOnce(t *testing.T, env api.Env, c evalCase, fuel, room int) {
	t.Helper()
	expectProgram(t, c.text, env, read(t, c.text), c, fuel, room)
}

// expectEval holds what a program comes to against what is asked for, with room enough: with just as many steps as it takes, with more, with fewer.
func expectEval(t *testing.T, env api.Env, c evalCase) {
	t.Helper()
	for _, fuel := range []int{c.steps, c.steps + 1, c.steps + 1000, math.MaxInt32, most} {
		expectOnce(t, env, c, fuel, most)
	}
	for _, fuel := range []int{least, -1, 0, 1, c.steps - 2, c.steps - 1} {
		if fuel < c.steps {
			expectOnce(t, env, evalCase{c.text, none, max(fuel, 0), api.ErrFuel}, fuel, most)
		}
	}
}

func expectCases(t *testing.T, cases []evalCase) {
	t.Helper()
	for _, c := range cases {
		expectEval(t, names(), c)
	}
}

// expressionCases are one of each kind, alone and within one another.
func expressionCases() []evalCase {
	return []evalCase{
		{"5", num(5), 1, 0},
		{"¯5", num(-5), 1, 0},
		{"1 2 3", nums(1, 2, 3), 1, 0},
		{"'a'", atom(sign(97)), 1, 0},
		{"'abc'", text("abc"), 1, 0},
		{"''", text(""), 1, 0},
		{"a", nums(1, 2, 3), 1, 0},
		{"b", bothKinds(), 1, 0},
		{"tab", table(), 1, 0},
		{"deep", boxes(api.MaxDeep, num(1)), 1, 0},
		{"rows", with([]int{0, 5}), 1, 0},
		{"(5)", num(5), 1, 0},
		{"((a))", nums(1, 2, 3), 1, 0},
		{"{⍵}5", num(5), 4, 0},
		{"5{⍺-⍵}3", num(2), 8, 0},
		{"5{⍵,⍺}3", nums(3, 5), 8, 0},
		{"-5", num(-5), 3, 0},
		{"5-3", num(2), 4, 0},
		{"≢⍳5", num(5), 5, 0},
		{"(-5)-3×a", nums(-8, -11, -14), 9, 0},
		{"5-3-2", num(4), 7, 0},
		{"(5-3)-2", num(0), 7, 0},
		{"10 20 30[2]", num(20), 4, 0},
		{"a[1]", num(1), 4, 0},
		{"a[3 1]", nums(3, 1), 4, 0},
		{"a[2][1]", none, 7, api.ErrRank},
		{"a[1 3][2]", num(3), 7, 0},
		{"a[a[3]]", num(3), 7, 0},
		{"-a[2]", num(-2), 6, 0},
		{"(⍳4)[2]", num(2), 6, 0},
		{"a[1]+a[2]", num(3), 10, 0},
		{"{⍵[1]}a", num(1), 7, 0},
		{"a[{⍵}1]", num(1), 7, 0},
	}
}

// ofOneCases are functions of one argument.
func ofOneCases() []evalCase {
	return []evalCase{
		{"-a", nums(-1, -2, -3), 3, 0},
		{"÷1", none, 3, api.ErrNonce},
		{"+1", none, 3, api.ErrNonce},
		{"{⍵+⍵}4", num(8), 7, 0},
		{"{7}4", num(7), 4, 0},
		{"{⍺+⍵}4", none, 3, api.ErrNonce},
		{"-⍨5", num(0), 4, 0},
		{",⍨a", nums(1, 2, 3, 1, 2, 3), 4, 0},
		{"⍴⍨1 2", of([]int{1, 2}, 1, 2), 4, 0},
		{"{⍺-⍵}⍨a", nums(0, 0, 0), 8, 0},
		{"-⍨⍨5", num(0), 5, 0},
		{"-⍨⍨⍨5", num(0), 6, 0},
		{"~⍨1", none, 4, api.ErrNonce},
		{"{⍵}⍨1", none, 4, api.ErrNonce},
		{"∘.+1 2", none, 3, api.ErrNonce},
		{"∘.+⍨1 2", of([]int{2, 2}, 2, 3, 3, 4), 4, 0},
	}
}

// powerCases are functions done so many times.
func powerCases() []evalCase {
	return []evalCase{
		{"({⍵+⍵}⍣0)5", num(5), 3, 0},
		{"({⍵+⍵}⍣1)5", num(10), 3 + 5, 0},
		{"({⍵+⍵}⍣2)5", num(20), 3 + 2*5, 0},
		{"({⍵+⍵}⍣62)1", num(1 << 62), 3 + 62*5, 0},
		{"({⍵+⍵}⍣4096)1", none, 3 + 63*5, api.ErrOverflow},
		{"({1+⍵}⍣4096)7", num(4103), 3 + 4096*5, 0},
		{"({7}⍣4096)5", num(7), 3 + 4096*2, 0},
		{"({none}⍣0)5", num(5), 3, 0},
		{"({none}⍣1)5", none, 5, api.ErrValue},
		{"({none}⍣3)5", none, 5, api.ErrValue},
		{"({⍵×2097152}⍣9)1", none, 3 + 3*5, api.ErrOverflow},
		{"({({⍵+⍵}⍣2)⍵}⍣3)1", num(64), 3 + 3*(1+3+2*5), 0},
		{"(({⍵+⍵}⍣2)⍣3)1", num(64), 3 + 3*(1+2*5), 0},
		{"((-⍣3)⍣0)7", num(7), 3, 0},
		{"(-⍣3)7", num(-7), 6, 0},
		{"(⍳⍣2)3", none, 5, api.ErrRank},
		{"(⍳⍣1)3", nums(1, 2, 3), 4, 0},
		{"(+⍣0)7", num(7), 3, 0},
		{"(+⍣2)7", none, 4, api.ErrNonce},
		{"({⍺+⍵}⍣0)7", num(7), 3, 0},
		{"({⍺+⍵}⍣1)7", none, 4, api.ErrNonce},
		{"(-⍨⍣3)7", num(0), 3 + 3*2, 0},
		{"(+/⍣2)a", num(6), 3 + 2, 0},
		{"(+\\⍣2)a", nums(1, 4, 10), 3 + 2, 0},
		{"(∘.+⍣1)7", none, 4, api.ErrNonce},
		{"1({⍵+⍵}⍣2)7", none, 4, api.ErrNonce},
		{"1(-⍣1)7", none, 4, api.ErrNonce},
		{"1(-⍣0)7", none, 4, api.ErrNonce},
		{"-⍣2⍨7", none, 4, api.ErrNonce},
	}
}

// ofTwoCases are functions of two arguments.
func ofTwoCases() []evalCase {
	return []evalCase{
		{"a+5", nums(6, 7, 8), 4, 0},
		{"a÷1", none, 4, api.ErrNonce},
		{"a~1", none, 4, api.ErrNonce},
		{"a≢1", none, 4, api.ErrNonce},
		{"2 2⍴a", of([]int{2, 2}, 1, 2, 3, 1), 4, 0},
		{"1↓a", nums(2, 3), 4, 0},
		{"1 2/b", list(box(nums(1, 2)), number(1), number(1)), 4, 0},
		{"b,⊂7", list(box(nums(1, 2)), number(1), box(num(7))), 6, 0},
		{"5↑b", none, 4, api.ErrDomain},
		{"2⌷a", num(2), 4, 0},
		{"a⍳3", num(3), 4, 0},
		{"b⍳⊂1 2", num(1), 6, 0},
		{"b∊⊂1 2", nums(1, 0), 6, 0},
		{"5{⍵-⍺}3", num(-2), 8, 0},
		{"5{⍵}3", none, 4, api.ErrNonce},
		{"5{7}3", none, 4, api.ErrNonce},
		{"5-⍨3", num(-2), 5, 0},
		{"5-⍨⍨3", num(2), 6, 0},
		{"5-⍨⍨⍨3", num(-2), 7, 0},
		{"a↑⍨2", nums(1, 2), 5, 0},
		{"a⌷⍨2", num(2), 5, 0},
		{"5{⍺-⍵}⍨3", num(-2), 9, 0},
		{"5{⍵}⍨3", none, 5, api.ErrNonce},
		{"5~⍨3", none, 5, api.ErrNonce},
		{"1 2∘.-10 20 30", of([]int{2, 3}, -9, -19, -29, -8, -18, -28), 4, 0},
		{"1 2∘.-⍨10 20 30", of([]int{3, 2}, 9, 8, 19, 18, 29, 28), 5, 0},
		{"1 2∘.(-⍨)10 20 30", of([]int{2, 3}, 9, 19, 29, 8, 18, 28), 4, 0},
		{"3+/a", none, 4, api.ErrNonce},
		{"3+⌿a", none, 4, api.ErrNonce},
		{"3+\\a", none, 4, api.ErrNonce},
		{"3+⍀a", none, 4, api.ErrNonce},
		{"a//1", none, 4, api.ErrNonce},
		{"a/⌿1", none, 4, api.ErrNonce},
		{"1 0 1/⍨1 2", none, 5, api.ErrLength},
		{"a⌿⍨1 0 1", nums(1, 3), 5, 0},
	}
}

// textCases are functions' texts within functions' texts.
func textCases() []evalCase {
	return []evalCase{
		{"{({⍵×10}⍵+1)+⍵}5", num(65), 16, 0},
		{"{⍵-{⍵×10}⍵+1}5", num(-55), 16, 0},
		{"5{⍺-⍵{⍺-⍵}⍺}3", num(7), 15, 0},
		{"5{(⍵{⍺-⍵}⍺),⍺,⍵}3", nums(-2, 5, 3), 18, 0},
		{"5{({⍵×10}⍺),({⍵×10}⍵),⍺}3", nums(50, 30, 5), 23, 0},
		{"{(100{⍺-⍵}⍵),⍵}5", nums(95, 5), 14, 0},
		{"{({⍺-⍵}⍨⍵),⍵}5", nums(0, 5), 14, 0},
		{"{⍵+⍵}{⍵+⍵}{⍵+⍵}1", num(8), 19, 0},
		{"{({7}⍵)+⍵}5", num(12), 10, 0},
		{"{a+⍵}5", nums(6, 7, 8), 7, 0},
		{"{(({⍵+⍵}⍣3)⍵)-⍵}5", num(35), 4 + 3 + 2 + 15, 0},
	}
}

// errorCases are programs that come to each error that there can be for another reason than fuel and room.
func errorCases() []evalCase {
	return []evalCase{
		{"a+wrong", none, 2, api.ErrArg},
		{"none+1", none, 3, api.ErrValue},
		{"-,c", none, 5, api.ErrDomain},
		{"≢⍳a", none, 4, api.ErrRank},
		{"1 2+1 2 3", none, 4, api.ErrLength},
		{"3 4⌷5 6", none, 4, api.ErrIndex},
		{"5 6[3]", none, 4, api.ErrIndex},
		{"9223372036854775807+1", none, 4, api.ErrOverflow},
		{"+/9223372036854775807 1", none, 3, api.ErrOverflow},
		{"+/9223372036854775807 1 ¯1", num(math.MaxInt64), 3, 0},
		{"1÷2", none, 4, api.ErrNonce},
		{"⍳16385", none, 3, api.ErrCells},
		{"⊂deep", none, 3, api.ErrDeep},
		{"a∘.<c", none, 4, api.ErrDomain},
		{"{⍵+1 2}a", none, 7, api.ErrLength},
		{"1↑⍨a", none, 5, api.ErrRank},
	}
}

// orderCases: of what there is to the right is done first, then what there is to the left, then the function; of square brackets what stands in them ahead of what stands ahead of them.
func orderCases() []evalCase {
	return []evalCase{
		{"none÷-c", none, 4, api.ErrDomain},
		{"(-c)÷none", none, 2, api.ErrValue},
		{"none÷1", none, 3, api.ErrValue},
		{"1÷-c", none, 4, api.ErrDomain},
		{"1÷1", none, 4, api.ErrNonce},
		{"÷none", none, 2, api.ErrValue},
		{"none÷⍨-c", none, 4, api.ErrDomain},
		{"(-c)÷⍨none", none, 2, api.ErrValue},
		{"none∘.+9⌷a", none, 5, api.ErrIndex},
		{"none∘.{⍺+⍵}9⌷a", none, 5, api.ErrIndex},
		{"none{⍺+⍵+-c}9⌷a", none, 5, api.ErrIndex},
		{"{7}none", none, 2, api.ErrValue},
		{"({⍵}⍣0)none", none, 2, api.ErrValue},
		{"~/none", none, 2, api.ErrValue},
		{"none[-c]", none, 4, api.ErrDomain},
		{"(-c)[none]", none, 2, api.ErrValue},
		{"none[1]", none, 3, api.ErrValue},
		{"(-c)[1]", none, 5, api.ErrDomain},
		{"5[9]", none, 4, api.ErrRank},
		{"5['a']", none, 4, api.ErrRank},
		{"none[wrong]", none, 2, api.ErrArg},
		{"1+none[-c]", none, 5, api.ErrDomain},
	}
}

// foldCases are the four signs behind a function, of a table, and of all else; and behind what is none for between items.
func foldCases() []evalCase {
	return []evalCase{
		{"-⌿tab", nums(-3, -3, -3), 3, 0},
		{"-⍨⌿tab", nums(3, 3, 3), 3, 0},
		{"-/tab", nums(2, 5), 3, 0},
		{"-⍨/tab", nums(0, -3), 3, 0},
		{"-⍀tab", of([]int{2, 3}, 1, 2, 3, -3, -3, -3), 3, 0},
		{"-⍨⍀tab", of([]int{2, 3}, 1, 2, 3, 3, 3, 3), 3, 0},
		{"-\\tab", of([]int{2, 3}, 1, -1, 2, 4, -1, 5), 3, 0},
		{"-⍨\\tab", of([]int{2, 3}, 1, 1, 0, 4, 1, -3), 3, 0},
		{"≥/3 2 1", num(1), 3, 0},
		{"≥⍨/3 1 2", num(0), 3, 0},
		{"+⌿rows", nums(0, 0, 0, 0, 0), 3, 0},
		{"×/cols", nums(1, 1, 1, 1, 1), 3, 0},
		{"×⌿cols", nums(), 3, 0},
		{"⌈\\5", num(5), 3, 0},
		{"+⍀c", none, 3, api.ErrDomain},
		{"⌈/⍳0", none, 5, api.ErrDomain},
		{"÷/a", none, 3, api.ErrNonce},
		{",/a", none, 3, api.ErrNonce},
		{"~⌿a", none, 3, api.ErrNonce},
		{"⍴\\a", none, 3, api.ErrNonce},
		{"⍳⍀a", none, 3, api.ErrNonce},
		{"{⍺+⍵}/a", none, 3, api.ErrNonce},
		{"{⍵}\\a", none, 3, api.ErrNonce},
		{"-⍨⍨/a", none, 3, api.ErrNonce},
		{",⍨/a", none, 3, api.ErrNonce},
		{"{⍺+⍵}⍨⌿a", none, 3, api.ErrNonce},
		{"+//a", none, 3, api.ErrNonce},
		{"+/⍨a", none, 4, api.ErrNonce},
		{"+/⍨/a", none, 3, api.ErrNonce},
		{"(+⍣2)/a", none, 3, api.ErrNonce},
		{"∘.+/a", none, 3, api.ErrNonce},
		{"∘.+⍨/a", none, 3, api.ErrNonce},
		{"a∘.,a", none, 4, api.ErrNonce},
		{"a∘.÷a", none, 4, api.ErrNonce},
		{"a∘.~a", none, 4, api.ErrNonce},
		{"a∘.{⍺+⍵}a", none, 4, api.ErrNonce},
		{"a∘.(,⍨)a", none, 4, api.ErrNonce},
		{"a∘.(-⍨⍨)a", none, 4, api.ErrNonce},
		{"a∘.(+/)a", none, 4, api.ErrNonce},
		{"a∘.(∘.+)a", none, 4, api.ErrNonce},
		{"a∘.(+⍣1)a", none, 4, api.ErrNonce},
	}
}

// allCases are all; rightCases those that come to values.
func allCases() []evalCase {
	out := []evalCase{}
	for _, l := range [][]evalCase{expressionCases(), ofOneCases(), powerCases(), ofTwoCases(), textCases(), errorCases(), orderCases(), foldCases(), originCases()} {
		out = append(out, l...)
	}
	return out
}

func rightCases() []evalCase {
	out := []evalCase{}
	for _, c := range allCases() {
		if c.err == api.OK {
			out = append(out, c)
		}
	}
	return out
}

// TestExpressions: 20.1, expressions of each kind.
func TestExpressions(t *testing.T) { expectCases(t, expressionCases()) }

// TestOfOne: 20.2, functions of one argument of each kind.
func TestOfOne(t *testing.T) { expectCases(t, ofOneCases()) }

// TestPower: 20.2, functions done so many times.
func TestPower(t *testing.T) { expectCases(t, powerCases()) }

// TestOfTwo: 20.3, functions of two arguments of each kind.
func TestOfTwo(t *testing.T) { expectCases(t, ofTwoCases()) }

// TestTexts: 20.2, 20.3, a text's arguments are its own.
func TestTexts(t *testing.T) { expectCases(t, textCases()) }

// TestErrors: 20.4, how many steps were taken beside each error.
func TestErrors(t *testing.T) { expectCases(t, errorCases()) }

// TestOrder: 20.1, the order in which parts are done.
func TestOrder(t *testing.T) { expectCases(t, orderCases()) }

// TestFolds: 20.2, 20.3, what stands between items, and what can't.
func TestFolds(t *testing.T) { expectCases(t, foldCases()) }

// TestEachBetween: 20.2, 20.3, each sign that goes cell by cell in each place between items, turned and not, of three unlike numbers.
func TestEachBetween(t *testing.T) {
	for _, sign := range cellwise() {
		do := func(x, y int64) int64 {
			a, _, _ := aeval.Eval(two(num(x), num(y)), read(t, "a"+sign+"b"), 9, 9)
			return a.Cells[0].N
		}
		turned := func(x, y int64) int64 { return do(y, x) }
		for f, by := range map[string]func(x, y int64) int64{sign: do, sign + "⍨": turned} {
			whole := by(2, by(7, 5))
			for _, behind := range []string{"/", "⌿"} {
				expectEval(t, names(), evalCase{f + behind + "2 7 5", num(whole), 3, 0})
			}
			for _, behind := range []string{"\\", "⍀"} {
				expectEval(t, names(), evalCase{f + behind + "2 7 5", nums(2, by(2, 7), whole), 3, 0})
			}
			want := of([]int{2, 2}, by(2, 7), by(2, 5), by(3, 7), by(3, 5))
			expectEval(t, names(), evalCase{"2 3∘.(" + f + ")7 5", want, 4, 0})
		}
	}
}

// TestExamples: the chapter's own.
func TestExamples(t *testing.T) {
	for _, c := range []evalCase{
		{"1+×⍨1 2", nums(2, 5), 7, 0},
		{"⍳3", nums(1, 2, 3), 3, 0},
		{"⎕IO←0⋄⍳3", nums(0, 1, 2), 3, 0},
		{"1÷2", none, 4, api.ErrNonce},
	} {
		expectEval(t, api.Env{}, c)
	}
}
