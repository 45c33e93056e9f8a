package run_test

import (
	"math"
	"strconv"
	"testing"

	"triglyph/api"
	"triglyph/arr"
	"triglyph/core"
	"triglyph/run"
)

// evalCase is a program with the names of names(), what it comes to with fuel and room enough, and in how many steps.
type evalCase struct {
	what  string
	n     api.Node
	want  api.Arr
	steps int
	err   api.Errno
}

// bothKinds is a list of a box and a number: four cells in all.
func bothKinds() api.Arr { return list(box(nums(1, 2)), number(1)) }

// table is two rows of three.
func table() api.Arr { return of([]int{2, 3}, 1, 2, 3, 4, 5, 6) }

// names are some with values; none has the name none, and that of wrong may not be.
func names() api.Env {
	return api.Env{
		Names: []string{"a", "b", "c", "cols", "deep", "rows", "tab", "wrong"},
		Vals:  []api.Arr{nums(1, 2, 3), bothKinds(), text("abc"), with([]int{5, 0}), boxes(api.MaxDeep, num(1)), with([]int{0, 5}), table(), with([]int{2}, number(1))},
	}
}

// expectOnce holds one answer, asked for twice, against what is asked for.
func expectOnce(t *testing.T, env api.Env, c evalCase, fuel, room int) {
	t.Helper()
	for range 2 {
		got, used, e := run.Eval(env, c.n, fuel, room)
		what := c.what + ", fuel " + strconv.Itoa(fuel) + ", room " + strconv.Itoa(room)
		expect(t, what, got, e, c.want, c.err)
		if used != c.steps {
			t.Errorf("%s: %d steps; want %d", what, used, c.steps)
		}
		if check := arr.Check(got); e == api.OK && check != api.OK {
			t.Errorf("%s: what came may not be: %v", what, check)
		}
	}
}

// expectEval holds what a program comes to against what is asked for, with room enough: with just as many steps as it takes, with more, with fewer.
func expectEval(t *testing.T, env api.Env, c evalCase) {
	t.Helper()
	for _, fuel := range []int{c.steps, c.steps + 1, c.steps + 1000, math.MaxInt32, most} {
		expectOnce(t, env, c, fuel, most)
	}
	for _, fuel := range []int{least, -1, 0, 1, c.steps - 2, c.steps - 1} {
		if fuel < c.steps {
			expectOnce(t, env, evalCase{c.what, c.n, api.Arr{}, max(fuel, 0), api.ErrFuel}, fuel, most)
		}
	}
}

func expectCases(t *testing.T, cases []evalCase) {
	t.Helper()
	for _, c := range cases {
		if e := core.Check(c.n); e != api.OK {
			t.Errorf("%s: the test's own program may not be", c.what)
		}
		expectEval(t, names(), c)
	}
}

// expressions are one of each kind, alone and within one another.
func expressions() []evalCase {
	return []evalCase{
		{"a number", lit(5), num(5), 1, 0},
		{"a list", lit(1, 2, 3), nums(1, 2, 3), 1, 0},
		{"no numbers", lit(), nums(), 1, 0},
		{"a sign", value(atom(sign(97))), atom(sign(97)), 1, 0},
		{"a text", value(text("abc")), text("abc"), 1, 0},
		{"a name", name("a"), nums(1, 2, 3), 1, 0},
		{"a name of boxes", name("b"), bothKinds(), 1, 0},
		{"a name of a table", name("tab"), table(), 1, 0},
		{"a name of boxes as deep as may be", name("deep"), boxes(api.MaxDeep, num(1)), 1, 0},
		{"a name of no rows", name("rows"), with([]int{0, 5}), 1, 0},
		{"the argument of one", mo(same(), lit(5)), num(5), 4, 0},
		{"the left one of two", dy(lam2(two(api.From, lit(0), two(api.CatF, left(), right()))), lit(5), lit(3)), num(5), 11, 0},
		{"the right one of two", dy(lam2(two(api.From, lit(1), two(api.CatF, left(), right()))), lit(5), lit(3)), num(3), 11, 0},
		{"a call of one", one(api.Neg, lit(5)), num(-5), 3, 0},
		{"a call of two", two(api.Sub, lit(5), lit(3)), num(2), 4, 0},
		{"a call of a call of one", one(api.Tally, one(api.Iota, lit(5))), num(5), 5, 0},
		{"calls on both sides", two(api.Sub, one(api.Neg, lit(5)), two(api.Mul, lit(3), name("a"))), nums(-8, -11, -14), 9, 0},
	}
}

// ofOne are functions of one argument.
func ofOne() []evalCase {
	return []evalCase{
		{"NPrim, the first", one(api.Neg, name("a")), nums(-1, -2, -3), 3, 0},
		{"NPrim, the last", one(api.Recip, name("a")), api.Arr{}, 3, api.ErrNonce},
		{"NPrim of layout", one(api.Shape, name("tab")), nums(2, 3), 3, 0},
		{"NPrim of seek", one(api.Down, name("a")), nums(2, 1, 0), 3, 0},
		{"NLam1", mo(twice(), lit(4)), num(8), 7, 0},
		{"NLam1 without its argument", mo(lam1(lit(7)), lit(4)), num(7), 4, 0},
		{"NComm of NPrim", mo(comm(prim(api.Sub)), lit(5)), num(0), 4, 0},
		{"NComm of CatF", mo(comm(prim(api.CatF)), name("a")), nums(1, 2, 3, 1, 2, 3), 4, 0},
		{"NComm of Reshape", mo(comm(prim(api.Reshape)), lit(1, 2)), of([]int{1, 2}, 1, 2), 4, 0},
		{"NComm of NLam2", mo(comm(minus()), name("a")), nums(0, 0, 0), 8, 0},
		{"NPow of 0", mo(power(0, twice()), lit(5)), num(5), 3, 0},
		{"NPow of 1", mo(power(1, twice()), lit(5)), num(10), 3 + 5, 0},
		{"NPow of 2", mo(power(2, twice()), lit(5)), num(20), 3 + 2*5, 0},
		{"NPow of 62", mo(power(62, twice()), lit(1)), num(1 << 62), 3 + 62*5, 0},
		{"NPow of once too often", mo(power(4096, twice()), lit(1)), api.Arr{}, 3 + 63*5, api.ErrOverflow},
		{"NPow of 4096", mo(power(4096, lam1(two(api.Add, lit(1), right()))), lit(7)), num(4103), 3 + 4096*5, 0},
		{"NPow of 4096, the argument not named", mo(power(4096, lam1(lit(7))), lit(5)), num(7), 3 + 4096*2, 0},
		{"NPow of 0 of what would fail", mo(power(0, lam1(name("none"))), lit(5)), num(5), 3, 0},
		{"NPow of 1 of what fails", mo(power(1, lam1(name("none"))), lit(5)), api.Arr{}, 5, api.ErrValue},
		{"NPow of what comes to rest", mo(power(9, lam1(one(api.First, right()))), one(api.List, lit(1, 2))), num(1), 5 + 9*4, 0},
		{"NPow of what fails the third time", mo(power(9, lam1(two(api.Mul, lit(1<<21), right()))), lit(1)), api.Arr{}, 3 + 3*5, api.ErrOverflow},
		{"NPow of NPow", mo(power(3, lam1(mo(power(2, twice()), right()))), lit(1)), num(64), 3 + 3*(1+3+2*5), 0},
	}
}

// ofTwo are functions of two arguments.
func ofTwo() []evalCase {
	tens := lit(10, 20, 30)
	return []evalCase{
		{"NPrim, the first", two(api.Add, name("a"), lit(5)), nums(6, 7, 8), 4, 0},
		{"NPrim, the last that goes cell by cell", two(api.Ge, name("a"), lit(2)), nums(0, 1, 1), 4, 0},
		{"NPrim, Reshape", two(api.Reshape, lit(2, 2), name("a")), of([]int{2, 2}, 1, 2, 3, 1), 4, 0},
		{"NPrim of pick", two(api.Drop, lit(1), name("a")), nums(2, 3), 4, 0},
		{"NPrim of pick, of boxes", two(api.RepF, lit(1, 2), name("b")), list(box(nums(1, 2)), number(1), number(1)), 4, 0},
		{"NPrim of pick, boxes on both sides", two(api.CatF, name("b"), one(api.Encl, lit(7))), list(box(nums(1, 2)), number(1), box(num(7))), 6, 0},
		{"NPrim of pick, a filling cell for a box", two(api.Take, lit(5), name("b")), api.Arr{}, 4, api.ErrDomain},
		{"NPrim, From", two(api.From, lit(1), name("a")), num(2), 4, 0},
		{"NPrim, At", two(api.At, name("a"), lit(1)), num(2), 4, 0},
		{"NPrim of seek, IndexOf", two(api.IndexOf, name("a"), lit(3)), num(2), 4, 0},
		{"NPrim of seek, IndexOf of a box", two(api.IndexOf, name("b"), one(api.Encl, lit(1, 2))), num(0), 6, 0},
		{"NPrim of seek, Member", two(api.Member, name("b"), one(api.Encl, lit(1, 2))), nums(1, 0), 6, 0},
		{"NPrim, the last", two(api.Div, name("a"), lit(1)), api.Arr{}, 4, api.ErrNonce},
		{"NLam2", dy(minus(), lit(5), lit(3)), num(2), 8, 0},
		{"NLam2, exchanged in its text", dy(lam2(two(api.Sub, right(), left())), lit(5), lit(3)), num(-2), 8, 0},
		{"NOuter", dy(outer(prim(api.Sub)), lit(1, 2), tens), of([]int{2, 3}, -9, -19, -29, -8, -18, -28), 4, 0},
		{"NOuter, turned", dy(outer(comm(prim(api.Sub))), lit(1, 2), tens), of([]int{2, 3}, 9, 19, 29, 8, 18, 28), 4, 0},
		{"NComm of NPrim", dy(comm(prim(api.Sub)), lit(5), lit(3)), num(-2), 5, 0},
		{"NComm of Take", dy(comm(prim(api.Take)), name("a"), lit(2)), nums(1, 2), 5, 0},
		{"NComm of NLam2", dy(comm(minus()), lit(5), lit(3)), num(-2), 9, 0},
	}
}

// foldCases are the four kinds by a function, and by it turned, of a table.
func foldCases() []evalCase {
	sub, turned := prim(api.Sub), comm(prim(api.Sub))
	on := func(kind int, f api.Node) api.Node { return mo(node(kind, f), name("tab")) }
	return []evalCase{
		{"NRedF", on(api.NRedF, sub), nums(-3, -3, -3), 3, 0},
		{"NRedF, turned", on(api.NRedF, turned), nums(3, 3, 3), 3, 0},
		{"NRedL", on(api.NRedL, sub), nums(2, 5), 3, 0},
		{"NRedL, turned", on(api.NRedL, turned), nums(0, -3), 3, 0},
		{"NScanF", on(api.NScanF, sub), of([]int{2, 3}, 1, 2, 3, -3, -3, -3), 3, 0},
		{"NScanF, turned", on(api.NScanF, turned), of([]int{2, 3}, 1, 2, 3, 3, 3, 3), 3, 0},
		{"NScanL", on(api.NScanL, sub), of([]int{2, 3}, 1, -1, 2, 4, -1, 5), 3, 0},
		{"NScanL, turned", on(api.NScanL, turned), of([]int{2, 3}, 1, 1, 0, 4, 1, -3), 3, 0},
		{"Ge between items", mo(node(api.NRedF, prim(api.Ge)), lit(3, 2, 1)), num(1), 3, 0},
		{"Ge between items, turned", mo(node(api.NRedF, comm(prim(api.Ge))), lit(3, 1, 2)), num(0), 3, 0},
		{"no rows", mo(node(api.NRedF, prim(api.Add)), name("rows")), nums(0, 0, 0, 0, 0), 3, 0},
		{"no columns", mo(node(api.NRedL, prim(api.Mul)), name("cols")), nums(1, 1, 1, 1, 1), 3, 0},
		{"no columns, the first axis", mo(node(api.NRedF, prim(api.Mul)), name("cols")), nums(), 3, 0},
		{"an atom", mo(node(api.NScanL, prim(api.Max)), lit(5)), num(5), 3, 0},
		{"signs", mo(node(api.NScanF, prim(api.Add)), name("c")), api.Arr{}, 3, api.ErrDomain},
		{"none to compare", mo(node(api.NRedF, prim(api.Max)), lit()), api.Arr{}, 3, api.ErrDomain},
	}
}

// textCases are functions' texts within functions' texts.
func textCases() []evalCase {
	tenfold := lam1(two(api.Mul, right(), lit(10)))
	within := lam1(two(api.Add, mo(tenfold, two(api.Add, right(), lit(1))), right()))
	behind := lam1(two(api.Sub, right(), mo(tenfold, two(api.Add, right(), lit(1)))))
	return []evalCase{
		{"of one within one", mo(within, lit(5)), num(65), 16, 0},
		{"of one within one, done ahead of the argument", mo(behind, lit(5)), num(-55), 16, 0},
		{"of two within two", dy(lam2(two(api.Sub, left(), dy(minus(), right(), left()))), lit(5), lit(3)), num(7), 15, 0},
		{"of two within two, named behind it", dy(lam2(two(api.CatF, dy(minus(), right(), left()), two(api.CatF, left(), right()))), lit(5), lit(3)), nums(-2, 5, 3), 18, 0},
		{"of one within two", dy(lam2(two(api.CatF, mo(tenfold, left()), two(api.CatF, mo(tenfold, right()), left()))), lit(5), lit(3)), nums(50, 30, 5), 23, 0},
		{"of two within one", mo(lam1(two(api.CatF, dy(minus(), lit(100), right()), right())), lit(5)), nums(95, 5), 14, 0},
		{"of two within one, turned", mo(lam1(two(api.CatF, mo(comm(minus()), right()), right())), lit(5)), nums(0, 5), 14, 0},
		{"a call as a function's argument", mo(twice(), mo(twice(), mo(twice(), lit(1)))), num(8), 19, 0},
		{"a text that names no argument within one that does", mo(lam1(two(api.Add, mo(lam1(lit(7)), right()), right())), lit(5)), num(12), 10, 0},
		{"a name within a text", mo(lam1(two(api.Add, name("a"), right())), lit(5)), nums(6, 7, 8), 7, 0},
		{"times within a text", mo(lam1(two(api.Sub, mo(power(3, twice()), right()), right())), lit(5)), num(35), 4 + 3 + 2 + 15, 0},
	}
}

// errorCases are programs that come to each error that there can be for another reason than fuel and room.
func errorCases() []evalCase {
	return []evalCase{
		{"a value that may not be", two(api.Add, name("a"), name("wrong")), api.Arr{}, 2, api.ErrArg},
		{"no value", two(api.Add, name("none"), lit(1)), api.Arr{}, 3, api.ErrValue},
		{"a sign", one(api.Neg, one(api.Ravel, name("c"))), api.Arr{}, 5, api.ErrDomain},
		{"a rank", one(api.Tally, one(api.Iota, name("a"))), api.Arr{}, 4, api.ErrRank},
		{"lengths", two(api.Add, lit(1, 2), lit(1, 2, 3)), api.Arr{}, 4, api.ErrLength},
		{"an item", two(api.From, lit(3, 4), lit(5, 6)), api.Arr{}, 4, api.ErrIndex},
		{"an overflow", two(api.Add, lit(math.MaxInt64), lit(1)), api.Arr{}, 4, api.ErrOverflow},
		{"a sum", mo(node(api.NRedF, prim(api.Add)), lit(math.MaxInt64, 1)), api.Arr{}, 3, api.ErrOverflow},
		{"broken numbers", two(api.Div, lit(1), lit(2)), api.Arr{}, 4, api.ErrNonce},
		{"too many cells", one(api.Iota, lit(full+1)), api.Arr{}, 3, api.ErrCells},
		{"too many boxes", one(api.Encl, name("deep")), api.Arr{}, 3, api.ErrDeep},
		{"each with each, unlike", dy(outer(prim(api.Lt)), name("a"), name("c")), api.Arr{}, 4, api.ErrDomain},
		{"in a text", mo(lam1(two(api.Add, right(), lit(1, 2))), name("a")), api.Arr{}, 7, api.ErrLength},
		{"turned", dy(comm(prim(api.Take)), lit(1), name("a")), api.Arr{}, 5, api.ErrRank},
	}
}

// orderCases: of a call's parts the third is done first, then the second, then the function.
func orderCases() []evalCase {
	domain, value := one(api.Neg, name("c")), name("none")
	index := two(api.From, lit(9), name("a"))
	return []evalCase{
		{"the third ahead of the second", two(api.Div, value, domain), api.Arr{}, 4, api.ErrDomain},
		{"the third ahead of the second, exchanged", two(api.Div, domain, value), api.Arr{}, 2, api.ErrValue},
		{"the second ahead of the function", two(api.Div, value, lit(1)), api.Arr{}, 3, api.ErrValue},
		{"the third ahead of the function", two(api.Div, lit(1), domain), api.Arr{}, 4, api.ErrDomain},
		{"the function last", two(api.Div, lit(1), lit(1)), api.Arr{}, 4, api.ErrNonce},
		{"of one: the second ahead of the function", one(api.Recip, value), api.Arr{}, 2, api.ErrValue},
		{"of one: the function last", one(api.Recip, lit(1)), api.Arr{}, 3, api.ErrNonce},
		{"turned: as written", dy(comm(prim(api.Div)), value, domain), api.Arr{}, 4, api.ErrDomain},
		{"each with each: as written", dy(outer(prim(api.Add)), value, index), api.Arr{}, 5, api.ErrIndex},
		{"a text's arguments ahead of the text", dy(lam2(two(api.Add, two(api.Add, left(), right()), domain)), value, index), api.Arr{}, 5, api.ErrIndex},
		{"an argument that is not named ahead of the text", mo(lam1(lit(7)), value), api.Arr{}, 2, api.ErrValue},
		{"an argument that is done no time at all", mo(power(0, same()), value), api.Arr{}, 2, api.ErrValue},
	}
}

// rightCases are those that come to values; allCases all.
func rightCases() []evalCase {
	out := []evalCase{}
	for _, c := range allCases() {
		if c.err == api.OK {
			out = append(out, c)
		}
	}
	return out
}

func allCases() []evalCase {
	out := append(expressions(), ofOne()...)
	out = append(append(out, ofTwo()...), foldCases()...)
	return append(append(append(out, textCases()...), errorCases()...), orderCases()...)
}

// 11.2: expressions of each kind.
func TestExpressions(t *testing.T) { expectCases(t, expressions()) }

// 11.3: functions of one argument of each kind.
func TestOfOne(t *testing.T) { expectCases(t, ofOne()) }

// 11.4: functions of two arguments of each kind.
func TestOfTwo(t *testing.T) { expectCases(t, ofTwo()) }

// 11.3: folds along each axis, by a function and by it turned.
func TestFolds(t *testing.T) { expectCases(t, foldCases()) }

// 11.3, 11.4: a text's arguments are its own.
func TestTexts(t *testing.T) { expectCases(t, textCases()) }

// 11.5: how many steps were taken beside each error.
func TestErrors(t *testing.T) { expectCases(t, errorCases()) }

// 11.2: the order in which parts are done.
func TestOrder(t *testing.T) { expectCases(t, orderCases()) }

// 11.3, 11.4: each primitive as a function of a program, in its place and turned: what One and Two come to.
func TestEachPrimitive(t *testing.T) {
	for _, c := range oneCases() {
		env := api.Env{Names: []string{"a"}, Vals: []api.Arr{c.x}}
		expectEval(t, env, evalCase{"One " + strconv.Itoa(c.op), one(c.op, name("a")), c.want, 3, c.err})
	}
	for _, c := range twoCases() {
		env := api.Env{Names: []string{"a", "b"}, Vals: []api.Arr{c.x, c.y}}
		what := "Two " + strconv.Itoa(c.op)
		expectEval(t, env, evalCase{what, two(c.op, name("a"), name("b")), c.want, 4, c.err})
		if c.op != api.From && c.op != api.At {
			expectEval(t, env, evalCase{what + ", turned", dy(comm(prim(c.op)), name("b"), name("a")), c.want, 5, c.err})
		}
	}
}

// 11.3, 11.4: each function for between items in each place, turned and not, of three unlike numbers.
func TestEachBetween(t *testing.T) {
	for op := api.Add; op <= api.Ge; op++ {
		do := func(x, y int64) int64 {
			a, _ := run.Two(op, num(x), num(y))
			return a.Cells[0].N
		}
		for _, turned := range []bool{false, true} {
			f, by := prim(op), do
			if turned {
				f, by = comm(prim(op)), func(x, y int64) int64 { return do(y, x) }
			}
			what := strconv.Itoa(op) + " " + strconv.FormatBool(turned)
			whole := by(2, by(7, 5))
			for _, kind := range folds() {
				want := num(whole)
				if kind == api.NScanF || kind == api.NScanL {
					want = nums(2, by(2, 7), whole)
				}
				expectEval(t, names(), evalCase{what, mo(node(kind, f), lit(2, 7, 5)), want, 3, 0})
			}
			want := of([]int{2, 2}, by(2, 7), by(2, 5), by(3, 7), by(3, 5))
			expectEval(t, names(), evalCase{what, dy(outer(f), lit(2, 3), lit(7, 5)), want, 4, 0})
		}
	}
}

// TestExamples: the chapter's own.
func TestExamples(t *testing.T) {
	n := mo(node(api.NRedF, prim(api.Add)), lit(1, 2, 3))
	expectOnce(t, api.Env{}, evalCase{"three steps", n, num(6), 3, 0}, 3, 3)
	expectOnce(t, api.Env{}, evalCase{"two steps", n, api.Arr{}, 2, api.ErrFuel}, 2, 3)
	expectOnce(t, api.Env{}, evalCase{"room for two cells", n, api.Arr{}, 2, api.ErrCells}, 3, 2)
}
