package klex_test

import (
	"cmp"
	"fmt"
	"math/big"
	"math/rand"
	"regexp"
	"slices"
	"strings"
	"testing"
	"unicode/utf8"

	"triglyph/api"
	"triglyph/klex"
)

// told is a fault with its place; of those at one place the error that the chapter names first comes first.
type told struct {
	at    int
	order int
}

// names are the errors in the chapter's order.
func names() []string { return []string{"long", "utf8", "syntax"} }

const (
	orderLong = iota
	orderUtf8
	orderSyntax
)

// numbersAhead, textAhead and lettersAhead are 14.2's words as patterns, operandEnd what may not stand ahead of a number below 0; samesAhead are 14.3's, by their kinds.
var (
	numbersAhead = regexp.MustCompile(`^-?[0-9]+(?: +-?[0-9]+)*`)
	operandEnd   = regexp.MustCompile(`[a-z0-9)\]}"]$`)
	textAhead    = regexp.MustCompile(`(?s)^"((?:[^"\\]|\\.)*)"`)
	textParts    = regexp.MustCompile(`(?s)\\["\\]|.`)
	lettersAhead = regexp.MustCompile(`^[a-z][a-z0-9]*`)
	lettersName  = regexp.MustCompile(`^(?:x|y|[a-w][a-w0-9]{0,7})$`)
	remarkAhead  = regexp.MustCompile(`^/$| /$`)
	samesAhead   = []struct {
		kind  string
		words *regexp.Regexp
	}{
		{"set", regexp.MustCompile(`^:`)},
		{"open", regexp.MustCompile(`^[({[]`)},
		{"close", regexp.MustCompile(`^[)}\]]`)},
		{"sign", regexp.MustCompile(`^[-+*%&|<>=~!#_,^?@/\\]`)},
	}
)

// plainly is what the chapter says of a text, said another way: by patterns, all faults being gathered and the first taken.
func plainly(s string) string {
	if len(s) > api.MaxText {
		return "long at 0"
	}
	var words []string
	for at := 0; ; {
		at += len(s[at:]) - len(strings.TrimLeft(s[at:], " "))
		if at == len(s) || s[at] == '/' && remarkAhead.MatchString(s[max(at-1, 0):at+1]) {
			return strings.Join(words, "; ")
		}
		word, size, faults := oneWord(s[:at], s[at:])
		if size > 0 && len(words) == api.MaxTokens {
			faults = append(faults, told{0, orderLong})
		}
		if len(faults) > 0 {
			f := slices.MinFunc(faults, func(a, b told) int { return cmp.Or(cmp.Compare(a.at, b.at), cmp.Compare(a.order, b.order)) })
			return fmt.Sprintf("%s at %d", names()[f.order], at+f.at)
		}
		words = append(words, fmt.Sprintf("%s %d", word, at))
		at += size
	}
}

// oneWord is the word with which a text goes on behind a front, how many bytes it has (0: there is none), and all that is wrong with it.
func oneWord(front, s string) (string, int, []told) {
	m := numbersAhead.FindString(s)
	if m != "" && (m[0] != '-' || !operandEnd.MatchString(front)) {
		word, faults := numbersOf(m)
		return word, len(m), faults
	}
	if strings.HasPrefix(s, `"`) {
		return textOf(s)
	}
	if m := lettersAhead.FindString(s); m != "" {
		if lettersName.MatchString(m) {
			return "name " + m, len(m), nil
		}
		return "", len(m), []told{{0, orderSyntax}}
	}
	for _, same := range samesAhead {
		if m := same.words.FindString(s); m != "" {
			return same.kind + " " + m, len(m), nil
		}
	}
	if r, size := utf8.DecodeRuneInString(s); r == utf8.RuneError && size == 1 {
		return "", 0, []told{{0, orderUtf8}}
	}
	return "", 0, []told{{0, orderSyntax}}
}

// numbersOf is numbers that stand together.
func numbersOf(m string) (string, []told) {
	var said []string
	var faults []told
	at := 0
	for _, part := range strings.Split(m, " ") {
		if part != "" {
			n, _ := new(big.Int).SetString(part, 10)
			if !n.IsInt64() {
				faults = append(faults, told{at, orderSyntax})
			}
			said = append(said, n.String())
		}
		at += len(part) + 1
	}
	if len(said) == 1 {
		return "num " + said[0], faults
	}
	return "num [" + strings.Join(said, " ") + "]", faults
}

// textOf is the text that stands ahead.
func textOf(s string) (string, int, []told) {
	m := textAhead.FindStringSubmatch(s)
	if m == nil {
		return "", len(s), []told{{0, orderSyntax}}
	}
	var said []string
	var faults []told
	for _, span := range textParts.FindAllStringIndex(m[1], -1) {
		part := m[1][span[0]:span[1]]
		r, _ := utf8.DecodeRuneInString(part)
		switch {
		case len(part) == 2 && part[0] == '\\':
			r = rune(part[1])
		case r == utf8.RuneError && len(part) == 1:
			faults = append(faults, told{1 + span[0], orderUtf8})
		case r < ' ' || r == 127 || r == '\\':
			faults = append(faults, told{1 + span[0], orderSyntax})
		}
		said = append(said, fmt.Sprintf("c%d", r))
	}
	if len(said) == 1 {
		return "text " + said[0], len(m[0]), faults
	}
	return "text [" + strings.Join(said, " ") + "]", len(m[0]), faults
}

// pieces are what texts by chance are made of.
func pieces() []string {
	out := []string{
		" ", " ", " ", "  ", "0", "1", "7", "12", "-", "-", "-3", " -3", "9223372036854775807", "9223372036854775808", "-9223372036854775808", "-9223372036854775809", "000",
		`"`, `"`, `""`, `"a"`, `"ab"`, `"it\"s"`, `"\\"`, `\"`, `"⍳"`, "a", "b1", "w", "x", "y", "x ", "y+", "abcdefgh", "abcdefghi", "ab ", ": ", "{ ", " }", "a-1", "a -1",
	}
	for _, w := range sames() {
		out = append(out, w.text)
	}
	return out
}

// wrongPieces are what seldom comes among them.
func wrongPieces() []string {
	return []string{"$", "'", ".", ";", "`", "z", "A", "xa", " /", "\\n", "\"\\n\"", "\t", "\n", "\x00", "\x1f", "\x7f", "\u0080", "é", "😀", "\xff", "\x80", "\xe2", "\xe2\x8d", "\xc2", "\xaf", "\xb3"}
}

// chanceText is a text by chance.
func chanceText(r *rand.Rand, right, wrong []string) string {
	var out strings.Builder
	seldom := 2 + r.Intn(40)
	for range r.Intn(20) {
		from := right
		if r.Intn(seldom) == 0 {
			from = wrong
		}
		out.WriteString(from[r.Intn(len(from))])
	}
	return out.String()
}

// TestChance: 14.1 to 14.4, texts by chance, against the chapter said another way.
func TestChance(t *testing.T) {
	r := rand.New(rand.NewSource(14))
	right, wrong := pieces(), wrongPieces()
	seen := map[string]int{}
	for range 100000 {
		s := chanceText(r, right, wrong)
		got, want := lex(s), plainly(s)
		if got != want {
			t.Fatalf("%q: %s; want %s", s, got, want)
		}
		first, _, _ := strings.Cut(want, " ")
		seen[first]++
	}
	for _, name := range []string{"utf8", "syntax", "name", "num", "text", "sign", "open", "close", "set"} {
		if seen[name] < 200 {
			t.Errorf("%s: %d times ahead", name, seen[name])
		}
	}
}

// TestShort: 14.1 to 14.4, every text of up to three of the bytes that play a part, and of five of those that play most of it, against the chapter said another way.
func TestShort(t *testing.T) {
	eachOf("+-*%&|<>=~!#_,^?@/\\(){}[]:\". 019aiwxyzN'$\xff\xe2\t", 3, func(s string) { holdPlainly(t, s) })
	eachOf("-/\\\" 1az)(\xff", 5, func(s string) { holdPlainly(t, s) })
}

// holdPlainly holds Lex against the chapter said another way.
func holdPlainly(t *testing.T, s string) {
	if got, want := lex(s), plainly(s); got != want {
		t.Fatalf("%q: %s; want %s", s, got, want)
	}
}

// eachOf does something with every text of up to so many of some bytes.
func eachOf(some string, most int, do func(s string)) {
	var more func(s string)
	more = func(s string) {
		do(s)
		if len(s) == most {
			return
		}
		for _, c := range []byte(some) {
			more(s + string([]byte{c}))
		}
	}
	more("")
}

// TestChanceLong: 14.1, longer ones about MaxTokens words and MaxText bytes.
func TestChanceLong(t *testing.T) {
	r := rand.New(rand.NewSource(141))
	right := []string{"+", "a ", "1+", "!", "(", `"a"`, "  ", "1 2 ", "{", "x ", ":", "-1", "+/"}
	wrong := []string{"$", "\xff", `"`, "abcdefghi", "9223372036854775808", "\"\x01\"", " xy ", " z ", " /"}
	seen := map[string]int{}
	for range 100 {
		var out strings.Builder
		for range 1200 + r.Intn(3600) {
			out.WriteString(right[r.Intn(len(right))])
		}
		s := out.String()
		if cut := len(s) - len(s)/8; r.Intn(2) == 0 {
			s = s[:cut] + wrong[r.Intn(len(wrong))] + s[cut:]
		}
		got, want := lex(s), plainly(s)
		if got != want {
			t.Fatalf("%s: %s; want %s", short(s), short(got), short(want))
		}
		if want == "long at 0" {
			seen["text"]++
		} else if strings.HasPrefix(want, "long") {
			seen["words"]++
		}
	}
	if seen["text"] == 0 || seen["words"] == 0 {
		t.Errorf("too long: %v", seen)
	}
}

// moved is what Lex says of a text, all places being so many bytes less.
func moved(s string, by int) string {
	l, f := klex.Lex(s)
	for i := range l {
		l[i].At -= by
	}
	if f.Err != api.OK {
		f.At -= by
	}
	return sayAll(l, f)
}

// TestFollows: 14.5, blanks behind turn nothing; and, as in 12.5, blanks ahead turn the places alone, and what stands behind a remark's beginning plays no part. P7: said twice it is the same.
func TestFollows(t *testing.T) {
	r := rand.New(rand.NewSource(145))
	right, wrong := pieces(), wrongPieces()
	for range 20000 {
		s := chanceText(r, right, wrong)
		was := lex(s)
		if again := lex(s); again != was {
			t.Fatalf("%q: %s, and then %s", s, was, again)
		}
		n := 1 + r.Intn(9)
		blanks := strings.Repeat(" ", n)
		if got := moved(blanks+s, n); got != was {
			t.Fatalf("%q with %d blanks ahead: %s; want %s", s, n, got, was)
		}
		if got := lex(s + blanks); got != was {
			t.Fatalf("%q with %d blanks behind: %s; want %s", s, n, got, was)
		}
		behind := chanceText(r, right, wrong)
		if _, f := klex.Lex(s); f.Err == api.OK {
			if got := lex(s + blanks + "/" + behind); got != was {
				t.Fatalf("%q, %d blanks, and a remark %q: %s; want %s", s, n, behind, got, was)
			}
		}
	}
}

// TestBehindOperand: 14.5, right behind an operand - is a function, whatever stands behind it.
func TestBehindOperand(t *testing.T) {
	for _, operand := range []string{"1", "12", "1 2", "-1", "a", "w", "ab1", "x", "y", `""`, `"a"`, `"-"`, `"\""`, `"\\"`, "(a)", "(1 2)", "{x}", "a[0]", "a[0][1]"} {
		for _, behind := range []string{"1", "12", "1 2", "-1", "a", "x", `"a"`, "(1)", "!3", " 1", " -1"} {
			ahead, f := klex.Lex(operand)
			all, g := klex.Lex(operand + "-" + behind)
			if f != (api.Fault{}) || g != (api.Fault{}) || len(all) < len(ahead)+2 {
				t.Fatalf("%q - %q: %v, %v", operand, behind, f, g)
			}
			if got, want := sayWord(all[len(ahead)]), fmt.Sprintf("sign - %d", len(operand)); got != want {
				t.Errorf("%q - %q: %s; want %s", operand, behind, got, want)
			}
			if got, want := sayAll(all[:len(ahead)], g), sayAll(ahead, f); got != want {
				t.Errorf("%q - %q: %s ahead; want %s", operand, behind, got, want)
			}
		}
	}
}

// FuzzLex: P1 and 14.1 to 14.4, of any bytes.
func FuzzLex(f *testing.F) {
	for _, s := range append(pieces(), wrongPieces()...) {
		f.Add(s)
		f.Add("a" + s + "1 " + s + "\"")
	}
	f.Fuzz(holdPlainly)
}
