package kay_test

import (
	"math/rand"
	"slices"
	"strings"
	"testing"
	"unsafe"

	"triglyph/api"
	"triglyph/arr"
	"triglyph/kay"
)

// hold holds Parse of a text against the chapter said another way, and, if the text is a program, that one's way there and back. It tells what Parse says.
func hold(t *testing.T, s string) string {
	t.Helper()
	p, f := kay.Parse(s)
	got, want := said(p, f), plainly(s)
	if got != want {
		t.Fatalf("%s: %s; want %s", short(s), short(got), short(want))
	}
	if f == (api.Fault{}) {
		holdBack(t, p)
	}
	return got
}

// holdBack holds Print of a program against the chapter said another way; what it prints is read as that program, and printed again it is the same (19.4).
func holdBack(t *testing.T, p api.Program) string {
	t.Helper()
	s, want := printed(p), plainText(p)
	if s != want {
		t.Fatalf("%s: %s; want %s", short(sayProgram(p)), short(s), short(want))
	}
	if s == "error" {
		return s
	}
	again, f := kay.Parse(s)
	if bare(said(again, f)) != bare(sayProgram(p)) {
		t.Fatalf("%s is read as %s", short(s), short(said(again, f)))
	}
	if second := printed(again); second != s {
		t.Fatalf("%s, and then %s", short(s), short(second))
	}
	return s
}

// eachOf does something with all rows of up to so many among some words.
func eachOf(words []string, most int, do func(s string)) {
	var more func(s string, left int)
	more = func(s string, left int) {
		do(s)
		for _, word := range words {
			if left > 0 {
				more(s+word, left-1)
			}
		}
	}
	more("", most)
}

// TestShort: 19.2 to 19.4, all short rows of words that play a part.
func TestShort(t *testing.T) {
	t.Parallel()
	for _, c := range []struct {
		words       string
		most, least int
	}{
		{`a_ : = b_ x_ y_ 1_ "c" + / \ ( ) {x} {x-y} [ ] _`, 4, 3000},
		{"a_ : :_ _: 1_ - /", 5, 100},
		{"+ / ( ) 1_ { } x_", 5, 100},
		{"3 {x} {x+1} {y} {x-y} / ( ) - _ a", 5, 300},
		{"a b[ ] [ 1_ -1 -", 5, 100},
		{"a: b:_ a - ( ) {x-y} 2{x}/_", 5, 300},
	} {
		programs := 0
		eachOf(strings.Fields(c.words), c.most, func(s string) {
			if !strings.Contains(hold(t, strings.ReplaceAll(s, "_", " ")), " at ") {
				programs++
			}
		})
		if programs < c.least {
			t.Errorf("%s: %d programs", c.words, programs)
		}
	}
}

// heads are what stands ahead of expressions by chance, right and not.
func heads() []string {
	return []string{
		"", "", "", "", "a:", "b1 : ", " abcdefgh:", "  w9  :  ", "i:", "e : ",
		"a=", "a =", "a: :", "x:", "y : ", "a:b:", ":", " : ", `"a":`, "1:", "(a):", "z:", "a.:", "a::", "a :=", "abcdefghi:", "+:", "a/:", "a[1]:", "a b:", "a:-", "a:/", "a: /",
	}
}

// TestTexts: 19.2 to 19.4, texts of programs by chance, as they are, without blanks, and with a piece of them changed.
func TestTexts(t *testing.T) {
	t.Parallel()
	r := rand.New(rand.NewSource(192))
	pieces := append(heads(), strings.Fields(`+ / \ ( ) { } [ ] 1 -2 0 a x y : = - " "" \" 3{x}/ 4097 /- {x} {y} [1] [a] $ . ^ _`)...)
	pieces = append(pieces, "\xff", " ", " /", "- ")
	programs := 0
	for range 4000 {
		m := &maker{Rand: r, size: r.Intn(25)}
		expr := plainText(line("", m.expression("")))
		if expr == "error" {
			continue
		}
		s := heads()[r.Intn(len(heads()))] + expr
		for range r.Intn(3) {
			i := r.Intn(len(s) + 1)
			j := i + r.Intn(min(3, len(s)-i+1))
			s = s[:i] + pieces[r.Intn(len(pieces))] + s[j:]
		}
		for _, s := range []string{s, strings.ReplaceAll(s, " ", ""), strings.ReplaceAll(s, " ", "   ") + " / so", "(" + expr + ")"} {
			if !strings.Contains(hold(t, s), " at ") {
				programs++
			}
		}
	}
	if programs < 4500 {
		t.Errorf("%d programs", programs)
	}
}

// maker makes programs by chance.
type maker struct {
	*rand.Rand
	size int // how much may still come
}

func (m *maker) one(words ...string) string { return words[m.Intn(len(words))] }

func (m *maker) goesOn() bool {
	m.size--
	return m.size > 0 && m.Intn(5) > 0
}

// expression makes one in which such arguments may be named.
func (m *maker) expression(may string) api.Node {
	if !m.goesOn() {
		return m.leaf(may)
	}
	switch m.Intn(8) {
	case 0, 1:
		return mo(m.function(), m.expression(may))
	case 2:
		return index(m.expression(may), m.expression(may))
	case 3:
		return repeat([]int{0, 1, 2, 4095, 4096}[m.Intn(5)], m.expression("R"), m.expression(may))
	}
	return dy(m.function(), m.expression(may), m.expression(may))
}

func (m *maker) leaf(may string) api.Node {
	leaves := []api.Node{num(0), num(1), num(-7), nums(0, 1), nums(-1, 2, -3), nums(), text("a"), text(`it"s`), text(`\`), text(" /a : 1"), name("a"), name("w"), name("b12"), name("abcdefgh")}
	if strings.Contains(may, "L") && m.Intn(2) == 0 {
		return left()
	}
	if strings.Contains(may, "R") && m.Intn(2) == 0 {
		return right()
	}
	return leaves[m.Intn(len(leaves))]
}

func (m *maker) function() api.Node {
	if !m.goesOn() {
		return verb(m.one(itsGrammar.Verbs...))
	}
	switch m.Intn(5) {
	case 0, 1:
		return lam1(m.expression("R"))
	case 2:
		return lam2(dy(m.function(), m.expression("LR"), dy(m.function(), left(), right())))
	}
	return adverb(m.one(itsGrammar.Adverbs...), m.function())
}

// program makes one with what stands ahead.
func (m *maker) program() api.Program {
	return line(m.one("", "", "a", "b7", "abcdefgh"), m.expression(""))
}

// broken is an expression with one node changed.
func (m *maker) broken(n api.Node) api.Node {
	if len(n.Kids) > 0 && m.Intn(4) > 0 {
		n.Kids = slices.Clone(n.Kids)
		i := m.Intn(len(n.Kids))
		n.Kids[i] = m.broken(n.Kids[i])
		return n
	}
	switch m.Intn(10) {
	case 0:
		n.Kind = m.Intn(40) - 2
	case 1:
		n.Kids = append(slices.Clone(n.Kids), m.expression(""))
	case 2:
		n.Kids = n.Kids[:m.Intn(len(n.Kids)+1)]
	case 3:
		n.Op = []int{-1, 1, 4096, 4097}[m.Intn(4)]
	case 4:
		n.Name = m.one("", "+", "/", `\`, "-", ":", "!", "a", "x", "y", "1", "-1", "a b", "+ +", "//", "=", "a : b", " /", "3{x}/")
	case 5:
		n.Lit = []api.Arr{{}, arr.Atom(1), arr.Nums([]int64{1}), arr.Nums([]int64{1, 2}), arr.Text([]int64{1}), {Shape: []int{0}}}[m.Intn(6)]
	case 6:
		return m.function()
	case 7:
		return []api.Node{left(), right(), of(api.NHook, verb("+"), verb("-")), of(api.NOuter, verb("+")), verb("/"), verb(`\`)}[m.Intn(6)]
	case 8:
		return lam1(m.expression("LR"))
	case 9:
		return power(m.Intn(4), []api.Node{n, lam1(num(1)), verb("-")}[m.Intn(3)])
	}
	return n
}

// TestPrograms: 19.3, 19.4, programs by chance.
func TestPrograms(t *testing.T) {
	t.Parallel()
	r := rand.New(rand.NewSource(193))
	seen, texts := map[int]int{}, 0
	for range 5000 {
		m := &maker{Rand: r, size: r.Intn(60)}
		p := m.program()
		if holdBack(t, p) != "error" {
			texts++
			tally(p.Expr, seen)
		}
	}
	if texts < 3000 {
		t.Errorf("%d texts", texts)
	}
	for kind := range tellings {
		if seen[kind] < 250 {
			t.Errorf("kind %d: %d times", kind, seen[kind])
		}
	}
}

// tally counts nodes by their kinds.
func tally(n api.Node, seen map[int]int) {
	seen[n.Kind]++
	for _, part := range n.Kids {
		tally(part, seen)
	}
}

// TestBrokenPrograms: 19.3, the same with a node changed, or what stands ahead.
func TestBrokenPrograms(t *testing.T) {
	t.Parallel()
	r := rand.New(rand.NewSource(194))
	seen := map[string]int{}
	for range 15000 {
		m := &maker{Rand: r, size: r.Intn(14)}
		p := m.program()
		switch m.Intn(8) {
		case 0:
			p.Set = m.one("", "x", "y", ":", "abcdefghi", "a:b", "a : b", "1", "w1")
		case 1:
			p.Origin = m.Intn(5) - 2
		default:
			p.Expr = m.broken(p.Expr)
		}
		seen[map[bool]string{true: "error", false: "text"}[holdBack(t, p) == "error"]]++
	}
	if seen["error"] < 2500 || seen["text"] < 1500 {
		t.Errorf("%v", seen)
	}
}

// TestDeepPrograms: 19.3, 19.4, programs that lie about as deep as they may.
func TestDeepPrograms(t *testing.T) {
	t.Parallel()
	r := rand.New(rand.NewSource(195))
	seen := map[string]int{}
	for range 1500 {
		m := &maker{Rand: r, size: 3 + r.Intn(4)}
		n, f := m.expression(""), m.function()
		for range 28 + r.Intn(20) {
			m.size = 2
			switch m.Intn(10) {
			case 0, 1:
				n = mo(m.function(), n)
			case 2:
				n = dy(m.function(), m.leaf(""), n)
			case 3:
				n = dy(m.function(), n, m.leaf(""))
			case 4:
				n = mo(lam1(n), m.leaf(""))
			case 5:
				n = index(m.leaf(""), n)
			case 6:
				n = index(n, m.leaf(""))
			case 7:
				n = repeat(m.Intn(4), right(), n)
			case 8:
				f = lam1(dy(f, m.leaf("R"), right()))
			case 9:
				f = adverb(m.one(itsGrammar.Adverbs...), f)
			}
		}
		for _, p := range []api.Program{line("", n), line("a", mo(f, num(1))), line("", mo(f, n))} {
			seen[map[bool]string{true: "error", false: "text"}[holdBack(t, p) == "error"]]++
		}
	}
	if seen["error"] < 500 || seen["text"] < 500 {
		t.Errorf("%v", seen)
	}
}

// TestBack: 19.4, texts, and what they are printed as.
func TestBack(t *testing.T) {
	for _, c := range [][2]string{
		{"a:1+!3", "a : 1 + ! 3"},
		{"1+!3", "1 + ! 3"},
		{"3{x+1}/5", "3 { x + 1 }/ 5"},
		{"(3)({x+1}/)(5)", "3 { x + 1 }/ 5"},
		{"007{x}/5", "7 { x }/ 5"},
		{"(3{x}/5)-3{x}/5", "( 3 { x }/ 5 ) - 3 { x }/ 5"},
		{"- 3{x}/5", "- 3 { x }/ 5"},
		{"a{x}/5", "a { x }/ 5"},
		{"3{x+y}/5", "3 { x + y }/ 5"},
		{`3{x}\5`, `3 { x }\ 5`},
		{"{x}/5", "{ x }/ 5"},
		{"{3{x}/x}1", "{ 3 { x }/ x } 1"},
		{"1{x+{x}y}2", "1 { x + { x } y } 2"},
		{"a : ! 003", "a : ! 3"},
		{"  a  :  1  / so", "a : 1"},
		{"a:((1))", "a : 1"},
		{"a=1", "a = 1"},
		{"a:=1", "a : = 1"},
		{"a:-1", "a : -1"},
		{"a:- 1", "a : - 1"},
		{"a-1", "a - 1"},
		{"1--2", "1 - -2"},
		{"-(-2)", "- -2"},
		{"(1+2)+(3+4)", "( 1 + 2 ) + 3 + 4"},
		{"-0", "0"},
		{"a(+/)b", "a +/ b"},
		{"+\\+/a", "+\\ +/ a"},
		{"a[1][-2]", "a [ 1 ] [ -2 ]"},
		{"(a[1])[2]", "a [ 1 ] [ 2 ]"},
		{"a[b[1]]", "a [ b [ 1 ] ]"},
		{"(+a)[1]", "( + a ) [ 1 ]"},
		{"(3{x}/5)[1]", "( 3 { x }/ 5 ) [ 1 ]"},
		{"7 8 9[!2]", "7 8 9 [ ! 2 ]"},
		{`a:"it\"s \\"`, `a : "it\"s \\"`},
		{`a:""`, `a : ""`},
		{`" /"`, `" /"`},
	} {
		p, f := kay.Parse(c[0])
		s := hold(t, c[0])
		if f != (api.Fault{}) {
			t.Errorf("%s: %s", c[0], s)
		}
		pairs{{p, c[1]}}.check(t)
		if got, want := bare(parsed(c[1])), bare(s); got != want {
			t.Errorf("%s: %s; want %s", c[1], got, want)
		}
	}
}

// TestParseNew: R3, what is answered shares no memory with the text, nor with another answer, nor one list with another. P7: read twice it is the same.
func TestParseNew(t *testing.T) {
	s := strings.Clone("abc:1 2{x+\"xy\"?y}\\3{x}/(d1[0 1])-3 4")
	first, _ := kay.Parse(s)
	second, _ := kay.Parse(s)
	want := sayProgram(first)
	begin := uintptr(unsafe.Pointer(unsafe.StringData(s)))
	isWithin := func(text string) bool {
		at := uintptr(unsafe.Pointer(unsafe.StringData(text)))
		return text != "" && at >= begin && at < begin+uintptr(len(s))
	}
	if isWithin(first.Set) {
		t.Error("Set is in the text's memory")
	}
	var spoil func(n *api.Node)
	spoil = func(n *api.Node) {
		if isWithin(n.Name) {
			t.Errorf("%s is in the text's memory", n.Name)
		}
		before := sayNode(*n)
		for i := range n.Lit.Shape[:cap(n.Lit.Shape)] {
			n.Lit.Shape[:cap(n.Lit.Shape)][i] = 99
		}
		for i := range n.Lit.Cells[:cap(n.Lit.Cells)] {
			n.Lit.Cells[:cap(n.Lit.Cells)][i].N = 99
		}
		if n.Kind != api.NLit && sayNode(*n) != before {
			t.Errorf("%s shares memory", before)
		}
		for i := range n.Kids[:cap(n.Kids)] {
			spoil(&n.Kids[:cap(n.Kids)][i])
		}
		*n = api.Node{}
	}
	spoil(&first.Expr)
	if got := sayProgram(second); got != want || parsed(s) != want {
		t.Errorf("%s; want %s", got, want)
	}
	out, _ := kay.Print(second)
	if again, e := kay.Print(second); again != out || e != api.OK || unsafe.StringData(again) == unsafe.StringData(out) {
		t.Errorf("%s, and then %s", out, again)
	}
}

// FuzzBack: P1, 19.2 to 19.4, of any text.
func FuzzBack(f *testing.F) {
	for _, s := range append(heads(), "1+!3", "3{x+1}/5", "a(+/)b", `"it\"s\\"`, "a[1 -2][b]", "{x+y}", "{x}", " /") {
		f.Add(s)
		f.Add("a:" + s)
		f.Add(s + "-" + s)
	}
	f.Fuzz(func(t *testing.T, s string) { hold(t, s) })
}
