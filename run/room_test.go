package run_test

import (
	"math"
	"strconv"
	"testing"

	"triglyph/api"
	"triglyph/run"
)

// nameCase is names, one of them asked for, and what comes of it in a step.
type nameCase struct {
	what string
	env  api.Env
	name string
	want api.Arr
	err  api.Errno
}

// nameCases are names with values and without.
func nameCases() []nameCase {
	one, two, three := nums(1, 1), nums(2, 2), nums(3, 3)
	wrong := with([]int{2}, number(1))
	env := func(vals []api.Arr, names ...string) api.Env { return api.Env{Names: names, Vals: vals} }
	return []nameCase{
		{"no names", api.Env{}, "a", api.Arr{}, api.ErrValue},
		{"no names, but a value", env([]api.Arr{one}), "a", api.Arr{}, api.ErrValue},
		{"another name", env([]api.Arr{one}, "b"), "a", api.Arr{}, api.ErrValue},
		{"one", env([]api.Arr{one}, "a"), "a", one, 0},
		{"the first", env([]api.Arr{one, two, three}, "a", "b", "c"), "a", one, 0},
		{"the second", env([]api.Arr{one, two, three}, "a", "b", "c"), "b", two, 0},
		{"the last", env([]api.Arr{one, two, three}, "a", "b", "c"), "c", three, 0},
		{"not in order", env([]api.Arr{one, two, three}, "c", "a", "b"), "a", two, 0},
		{"a beginning of another", env([]api.Arr{one, two}, "ab", "a"), "a", two, 0},
		{"longer than another", env([]api.Arr{one, two}, "a", "ab"), "ab", two, 0},
		{"as long as may be", env([]api.Arr{one, two}, "a", "abcdefg1"), "abcdefg1", two, 0},
		{"great letters are others", env([]api.Arr{one}, "A"), "a", api.Arr{}, api.ErrValue},
		{"a name that may not be is passed over", env([]api.Arr{one, two, three}, "", "x⍵", "a"), "a", three, 0},
		{"twice", env([]api.Arr{one, two}, "a", "a"), "a", one, 0},
		{"twice, behind another", env([]api.Arr{one, two, three}, "b", "a", "a"), "a", two, 0},
		{"twice, the first may not be", env([]api.Arr{wrong, two}, "a", "a"), "a", api.Arr{}, api.ErrArg},
		{"twice, the second may not be", env([]api.Arr{one, wrong}, "a", "a"), "a", one, 0},
		{"twice, the second without a value", env([]api.Arr{one}, "a", "a"), "a", one, 0},
		{"no value at its place", env(nil, "a"), "a", api.Arr{}, api.ErrValue},
		{"no value at its place, behind one with a value", env([]api.Arr{one}, "b", "a"), "a", api.Arr{}, api.ErrValue},
		{"twice, none with a value", env([]api.Arr{one}, "b", "a", "a"), "a", api.Arr{}, api.ErrValue},
		{"more values than names", env([]api.Arr{one, two}, "a"), "a", one, 0},
		{"a value that may not be", env([]api.Arr{wrong}, "a"), "a", api.Arr{}, api.ErrArg},
		{"another's value may not be", env([]api.Arr{wrong, two}, "a", "b"), "b", two, 0},
		{"no rows", env([]api.Arr{with([]int{0, 3})}, "a"), "a", with([]int{0, 3}), 0},
	}
}

// 11.2: what names have.
func TestNames(t *testing.T) {
	for _, c := range nameCases() {
		expectEval(t, c.env, evalCase{c.what, name(c.name), c.want, 1, c.err})
		expectEval(t, c.env, evalCase{c.what + ", within", mo(same(), name(c.name)), c.want, map[bool]int{true: 4, false: 2}[c.err == 0], c.err})
	}
}

// 11.2: a value that may not be is ErrArg, whatever is wrong with it, and ahead of its being too many cells; one that is not asked for plays no part.
func TestWrongValues(t *testing.T) {
	wrong := []api.Arr{
		{}, {Cells: nums(1, 2).Cells}, with([]int{3}, number(1)), with([]int{-1}), with(make([]int, 9)), with([]int{full + 1}), with([]int{0, full + 1}), counted(full, 2),
		boxes(api.MaxDeep+1, num(1)), atom(api.Cell{Kind: 3}), atom(api.Cell{Kind: -1}), atom(api.Cell{Kind: api.CBox}), atom(sign(-1)), list(number(1), sign(0xd800)), list(number(1), sign(0x110000)),
		atom(api.Cell{Kind: api.CInt, Box: []api.Arr{num(1)}}), atom(api.Cell{Kind: api.CBox, N: 1, Box: []api.Arr{num(1)}}), atom(api.Cell{Kind: api.CBox, Box: []api.Arr{num(1), num(1)}}),
	}
	for i, a := range wrong {
		env := api.Env{Names: []string{"a", "b"}, Vals: []api.Arr{a, num(7)}}
		what := strconv.Itoa(i)
		for _, room := range []int{least, 0, 1, full, most} {
			expectOnce(t, env, evalCase{what, name("a"), api.Arr{}, 1, api.ErrArg}, 9, room)
			expectOnce(t, env, evalCase{what, two(api.Add, name("a"), lit()), api.Arr{}, 3, api.ErrArg}, 9, room)
		}
		expectOnce(t, env, evalCase{what, two(api.Add, name("b"), lit(1)), num(8), 4, api.OK}, 9, 1)
		expectOnce(t, env, evalCase{what, name("a"), api.Arr{}, 0, api.ErrFuel}, 0, 1)
	}
}

// roomCase is a program, how much room it needs, and in how many steps it is told, if there is a cell less.
type roomCase struct {
	what  string
	n     api.Node
	need  int
	steps int
}

// roomCases are of all that is held.
func roomCases() []roomCase {
	tens := lit(10, 20, 30)
	return []roomCase{
		{"an atom", lit(5), 1, 1},
		{"a list", lit(1, 2, 3), 3, 1},
		{"a text", value(text("abcde")), 5, 1},
		{"a name", name("tab"), 6, 1},
		{"a name of a box", name("b"), 4, 1},
		{"a name of boxes in boxes", name("deep"), 9, 1},
		{"what comes of one", one(api.Iota, lit(5)), 5, 3},
		{"the shape of an atom's table", one(api.Shape, one(api.List, one(api.List, lit(5)))), 2, 7},
		{"a box made", one(api.Encl, lit(1, 2)), 3, 3},
		{"a box of a box", one(api.Encl, one(api.Encl, lit(1, 2))), 4, 5},
		{"what comes on the way", one(api.Tally, one(api.Iota, lit(10))), 10, 4},
		{"what comes of two", two(api.Reshape, lit(2, 3), lit(1)), 6, 4},
		{"what comes of two, cell by cell", two(api.Add, lit(1), mo(node(api.NRedF, prim(api.Add)), name("rows"))), 5, 4},
		{"joined", two(api.CatF, name("a"), lit(7)), 4, 4},
		{"boxes joined", two(api.CatF, name("b"), name("b")), 8, 4},
		{"boxes repeated", two(api.RepF, lit(3, 1), name("b")), 10, 4},
		{"boxes laid", two(api.Reshape, lit(5), name("b")), 11, 4},
		{"a box filled up", two(api.Take, lit(9), lit(1)), 9, 4},
		{"boxes looked up", two(api.From, lit(0, 0, 0), name("b")), 9, 4},
		{"sought", two(api.IndexOf, lit(), one(api.Encl, lit(1, 2, 3))), 4, 4},
		{"each with each", dy(outer(prim(api.Add)), lit(1, 2), tens), 6, 4},
		{"each with each, turned", dy(outer(comm(prim(api.Add))), lit(1, 2), tens), 6, 4},
		{"folded, no rows", mo(node(api.NRedF, prim(api.Add)), name("rows")), 5, 3},
		{"folded, no columns", mo(node(api.NRedL, prim(api.Mul)), name("cols")), 5, 3},
		{"scanned", mo(node(api.NScanF, prim(api.Add)), name("tab")), 6, 2},
		{"with itself behind it", mo(comm(prim(api.CatF)), name("a")), 6, 4},
		{"turned", dy(comm(prim(api.Take)), lit(1), lit(7)), 7, 5},
		{"in a text", mo(lam1(two(api.CatF, right(), right())), name("a")), 6, 7},
		{"in a text of two", dy(lam2(two(api.CatF, left(), right())), name("a"), lit(7)), 4, 8},
		{"in a text that does not name its argument", mo(lam1(lit(7)), name("a")), 3, 2},
		{"the fourth time", mo(power(4, lam1(two(api.CatF, right(), right()))), lit(7)), 16, 3 + 4*5},
		{"as many cells as may be", one(api.Iota, lit(full)), full, 3},
		{"as many cells as may be in a box", one(api.Encl, one(api.Iota, lit(full))), full + 1, 5},
		{"boxes of as many cells as may be", mo(comm(prim(api.CatF)), one(api.Encl, one(api.Iota, lit(full)))), 2*full + 2, 8},
	}
}

// 11.2 to 11.4, P5: with as much room as a program needs it comes to what it comes to with any room, with a cell less to ErrCells.
func TestRoom(t *testing.T) {
	for _, c := range roomCases() {
		want, used, e := run.Eval(names(), c.n, most, most)
		if e != api.OK || used < c.steps {
			t.Fatalf("%s: %v, %d steps", c.what, e, used)
		}
		for _, room := range []int{c.need, c.need + 1, c.need * 3, math.MaxInt32, most} {
			expectOnce(t, names(), evalCase{c.what, c.n, want, used, api.OK}, used, room)
		}
		refused := evalCase{c.what, c.n, api.Arr{}, c.steps, api.ErrCells}
		expectOnce(t, names(), refused, c.steps, c.need-1)
		expectOnce(t, names(), refused, most, c.need-1)
		expectOnce(t, names(), evalCase{c.what, c.n, api.Arr{}, c.steps - 1, api.ErrFuel}, c.steps-1, c.need-1)
	}
}

// 11.2, 11.5: literals and names of each number of cells in each room.
func TestRoomOfEach(t *testing.T) {
	for cells := range 12 {
		for room := -2; room < 14; room++ {
			env := api.Env{Names: []string{"a"}, Vals: []api.Arr{counted(cells)}}
			c := evalCase{strconv.Itoa(cells), name("a"), counted(cells), 1, api.OK}
			if cells > room && cells > 0 {
				c.want, c.err = api.Arr{}, api.ErrCells
			}
			expectOnce(t, env, c, 5, room)
			if cells != 1 {
				c.n = value(counted(cells))
				expectOnce(t, env, c, 5, room)
			}
		}
	}
}

// 11.2 to 11.5: where fuel, room and a function's error apply, that which comes first is told.
func TestWhichFirst(t *testing.T) {
	none := name("none")
	cases := []struct {
		what       string
		n          api.Node
		fuel, room int
		steps      int
		err        api.Errno
	}{
		{"a step ahead of a literal", lit(1, 2), 0, 1, 0, api.ErrFuel},
		{"a step ahead of a name", none, 0, 1, 0, api.ErrFuel},
		{"a step ahead of a wrong value", name("wrong"), 0, 1, 0, api.ErrFuel},
		{"a call's step ahead of its parts", two(api.Add, none, none), 0, 1, 0, api.ErrFuel},
		{"the third part's room ahead of the second's value", two(api.Add, none, lit(1, 2)), 9, 1, 2, api.ErrCells},
		{"the third part's value ahead of the second's room", two(api.Add, lit(1, 2), none), 9, 1, 2, api.ErrValue},
		{"the second part's room ahead of the function", two(api.Div, lit(1, 2), lit(1)), 9, 1, 3, api.ErrCells},
		{"a function's step ahead of its error", two(api.Div, lit(1), lit(1)), 3, 1, 3, api.ErrFuel},
		{"a function's error ahead of its room", two(api.Take, lit(9), name("b")), 9, 4, 4, api.ErrDomain},
		{"a domain ahead of room", two(api.CatF, lit(1), one(api.Iota, lit(-1))), 9, 1, 4, api.ErrDomain},
		{"each with each: an error ahead of room", dy(outer(prim(api.Add)), lit(1, 2), name("c")), 9, 3, 4, api.ErrDomain},
		{"a fold's error ahead of its room", mo(node(api.NRedF, prim(api.Max)), name("rows")), 9, 0, 3, api.ErrDomain},
		{"room on the way ahead of the text's value", mo(lam1(two(api.Add, none, two(api.CatF, right(), right()))), lit(1)), 99, 1, 8, api.ErrCells},
		{"no step for what is between items", mo(node(api.NRedF, comm(prim(api.Sub))), lit(5)), 3, 1, 3, api.OK},
	}
	for _, c := range cases {
		want := api.Arr{}
		if c.err == api.OK {
			want = num(5)
		}
		expectOnce(t, names(), evalCase{c.what, c.n, want, c.steps, c.err}, c.fuel, c.room)
	}
}

// wrongPrograms are some that may not be.
func wrongPrograms() map[string]api.Node {
	deep := lit(1)
	for range api.MaxNest + 1 {
		deep = one(api.Neg, deep)
	}
	return map[string]api.Node{
		"no node":                       {},
		"a kind that is none":           {Kind: 99},
		"a kind below all":              {Kind: -1},
		"NLeft alone":                   left(),
		"NRight alone":                  right(),
		"NLeft in a text of one":        mo(lam1(two(api.Add, left(), right())), lit(1)),
		"NRight alone in a text of two": dy(lam2(one(api.Neg, right())), lit(1), lit(2)),
		"a function":                    prim(api.Neg),
		"a function's text":             twice(),
		"NMo without parts":             node(api.NMo),
		"NMo with a part too many":      node(api.NMo, prim(api.Neg), lit(1), lit(1)),
		"NDy with a part too few":       node(api.NDy, prim(api.Add), lit(1)),
		"a function of two of one":      one(api.Add, lit(1)),
		"a function of one of two":      two(api.Neg, lit(1), lit(2)),
		"an Op between the rows":        two(33, lit(1), lit(2)),
		"an Op of none":                 one(20, lit(1)),
		"a list of one":                 value(nums(1)),
		"a table":                       value(table()),
		"a box":                         value(atom(box(num(1)))),
		"a sign below 32":               value(atom(sign(31))),
		"a name that is none":           name("x"),
		"no name":                       name(""),
		"a name too long":               name("abcdefghi"),
		"a literal with a name":         {Kind: api.NLit, Lit: num(1), Name: "a"},
		"a name with a literal":         {Kind: api.NVar, Lit: num(1), Name: "a"},
		"NComm of From":                 dy(comm(prim(api.From)), lit(0), lit(1, 2)),
		"NComm of At, of one":           mo(comm(prim(api.At)), lit(0)),
		"NComm of NComm":                dy(comm(comm(prim(api.Sub))), lit(0), lit(1)),
		"Take between items":            mo(node(api.NRedF, prim(api.Take)), lit(1, 2)),
		"a text between items":          mo(node(api.NRedF, minus()), lit(1, 2)),
		"a fold of two":                 dy(node(api.NRedF, prim(api.Add)), lit(1), lit(2)),
		"NOuter of one":                 mo(outer(prim(api.Add)), lit(1)),
		"NPow of -1":                    mo(power(-1, twice()), lit(1)),
		"NPow of 4097":                  mo(power(4097, twice()), lit(1)),
		"NPow of a primitive":           mo(power(1, prim(api.Neg)), lit(1)),
		"NIndex":                        node(api.NIndex, lit(1, 2), lit(0)),
		"NAdv":                          mo(node(api.NAdv, prim(api.Add)), lit(1, 2)),
		"NFork":                         mo(node(api.NFork, prim(api.Neg), prim(api.Add), prim(api.Neg)), lit(1)),
		"too deep":                      deep,
		"too long":                      tree(api.MaxTokens + 1),
		"wrong behind what would fail":  two(api.Add, left(), name("none")),
	}
}

// 11.5: programs that may not be are ErrArg, and no step is taken, whatever there is of fuel, room and names.
func TestWrongPrograms(t *testing.T) {
	for what, n := range wrongPrograms() {
		for _, fuel := range []int{least, -1, 0, 1, 100, most} {
			for _, room := range []int{least, 0, 1, most} {
				expectOnce(t, names(), evalCase{what, n, api.Arr{}, 0, api.ErrArg}, fuel, room)
				expectOnce(t, api.Env{}, evalCase{what, n, api.Arr{}, 0, api.ErrArg}, fuel, room)
			}
		}
	}
}

// 11.5: a program as great and as deep as may be is done.
func TestGreatest(t *testing.T) {
	deep := lit(1)
	for range api.MaxNest {
		deep = one(api.Neg, deep)
	}
	expectEval(t, names(), evalCase{"as deep as may be", deep, num(1), 2*api.MaxNest + 1, 0})
	great := tree(api.MaxTokens)
	want := int64(0)
	every(&great, func(n *api.Node) {
		if n.Kind == api.NLit {
			want++
		}
	})
	expectEval(t, names(), evalCase{"as great as may be", great, num(want), api.MaxTokens, 0})
	expectOnce(t, names(), evalCase{"one node more", tree(api.MaxTokens + 1), api.Arr{}, 0, api.ErrArg}, most, most)
}

// tree is a program of so many nodes, not 2, that lies as flat as it can: it comes to how many literals it has, for each is 1.
func tree(nodes int) api.Node {
	switch nodes {
	case 1:
		return lit(1)
	case 3, 5:
		return one(api.Abs, tree(nodes-2))
	case 6, 7:
		return two(api.Add, tree(1), tree(nodes-3))
	}
	half := (nodes - 2) / 2
	return two(api.Add, tree(half), tree(nodes-2-half))
}

// 11.5, P5: as many steps as there is fuel, however often a function would be done.
func TestFuel(t *testing.T) {
	endless := lam1(right())
	for range 5 {
		endless = lam1(mo(power(api.MaxPower, endless), right()))
	}
	n := mo(endless, lit(1))
	for _, fuel := range []int{least, -1, 0, 1, 2, 3, 10, 1000, 99999, 1000000} {
		expectOnce(t, names(), evalCase{"nearly without an end", n, api.Arr{}, max(fuel, 0), api.ErrFuel}, fuel, 1)
	}
}
