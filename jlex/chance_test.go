package jlex_test

import (
	"cmp"
	"fmt"
	"math/big"
	"math/rand"
	"regexp"
	"slices"
	"strings"
	"testing"
	"unicode/utf8"

	"triglyph/api"
	"triglyph/jlex"
)

// told is a fault with its place; of those at one place the error that the chapter names first comes first.
type told struct {
	at    int
	order int
}

// names are the errors in the chapter's order.
func names() []string { return []string{"long", "utf8", "syntax"} }

const (
	orderLong = iota
	orderUtf8
	orderSyntax
)

// numbersAhead and lettersAhead are 13.2's words as patterns, with those of letters that are words; samesAhead are 13.3's, by their kinds.
var (
	numbersAhead = regexp.MustCompile(`^_?[0-9]+(?: +_?[0-9]+)*`)
	lettersAhead = regexp.MustCompile(`^[a-z][a-z0-9]*[.:]?`)
	lettersSign  = regexp.MustCompile(`^[ie]\.$`)
	lettersName  = regexp.MustCompile(`^(?:x|y|[a-w][a-w0-9]{0,7})$`)
	samesAhead   = []struct {
		kind  string
		words *regexp.Regexp
	}{
		{"set", regexp.MustCompile(`^=:`)},
		{"open", regexp.MustCompile(`^(?:\{\{|\()`)},
		{"close", regexp.MustCompile(`^(?:\}\}|\))`)},
		{"sign", regexp.MustCompile(`^(?:[-|<>~{}]\.|[|<>~,/\\^]:|[-*|%+<>=~$#,/\\{])`)},
	}
	lastAhead = regexp.MustCompile(`^"1`)
	lastNever = regexp.MustCompile(`^"1[0-9]`)
)

// plainly is what the chapter says of a text, said another way: by patterns, all faults being gathered and the first taken.
func plainly(s string) string {
	if len(s) > api.MaxText {
		return "long at 0"
	}
	var words []string
	for at := 0; ; {
		at += len(s[at:]) - len(strings.TrimLeft(s[at:], " "))
		rest := s[at:]
		if rest == "" || strings.HasPrefix(rest, "NB.") {
			return strings.Join(words, "; ")
		}
		word, size, faults := oneWord(rest)
		if size > 0 && len(words) == api.MaxTokens {
			faults = append(faults, told{0, orderLong})
		}
		if len(faults) > 0 {
			f := slices.MinFunc(faults, func(a, b told) int { return cmp.Or(cmp.Compare(a.at, b.at), cmp.Compare(a.order, b.order)) })
			return fmt.Sprintf("%s at %d", names()[f.order], at+f.at)
		}
		words = append(words, fmt.Sprintf("%s %d", word, at))
		at += size
	}
}

// oneWord is the word that stands ahead, how many bytes it has (0: there is none), and all that is wrong with it.
func oneWord(s string) (string, int, []told) {
	if m := numbersAhead.FindString(s); m != "" {
		word, faults := numbersOf(m)
		return word, len(m), faults
	}
	if strings.HasPrefix(s, "'") {
		return textOf(s)
	}
	if m := lettersAhead.FindString(s); m != "" {
		switch {
		case lettersSign.MatchString(m):
			return "sign " + m, len(m), nil
		case lettersName.MatchString(m):
			return "name " + m, len(m), nil
		}
		return "", len(m), []told{{0, orderSyntax}}
	}
	for _, same := range samesAhead {
		if m := same.words.FindString(s); m != "" {
			return same.kind + " " + m, len(m), nil
		}
	}
	if lastAhead.MatchString(s) && !lastNever.MatchString(s) {
		return `sign "1`, 2, nil
	}
	if r, size := utf8.DecodeRuneInString(s); r == utf8.RuneError && size == 1 {
		return "", 0, []told{{0, orderUtf8}}
	}
	return "", 0, []told{{0, orderSyntax}}
}

// numbersOf is numbers that stand together.
func numbersOf(m string) (string, []told) {
	var said []string
	var faults []told
	at := 0
	for _, part := range strings.Split(m, " ") {
		if part != "" {
			n, _ := new(big.Int).SetString(strings.Replace(part, "_", "-", 1), 10)
			if !n.IsInt64() {
				faults = append(faults, told{at, orderSyntax})
			}
			said = append(said, n.String())
		}
		at += len(part) + 1
	}
	if len(said) == 1 {
		return "num " + said[0], faults
	}
	return "num [" + strings.Join(said, " ") + "]", faults
}

// textOf is the text that stands ahead.
func textOf(s string) (string, int, []told) {
	// Two of the signs that end it are taken away side by side; the first that stays ends it.
	inner := s[1:]
	size := strings.Index(strings.ReplaceAll(inner, "''", "  "), "'")
	var faults []told
	if size < 0 {
		faults = append(faults, told{0, orderSyntax})
		size = len(inner)
	}
	inner = inner[:size]
	var said []string
	pair := false
	for i, r := range inner {
		_, long := utf8.DecodeRuneInString(inner[i:])
		switch {
		case r == utf8.RuneError && long == 1:
			faults = append(faults, told{1 + i, orderUtf8})
		case r < ' ' || r == 127:
			faults = append(faults, told{1 + i, orderSyntax})
		}
		pair = r == '\'' && !pair
		if !pair {
			said = append(said, fmt.Sprintf("c%d", r))
		}
	}
	if len(said) == 1 {
		return "text " + said[0], size + 2, faults
	}
	return "text [" + strings.Join(said, " ") + "]", size + 2, faults
}

// pieces are what texts by chance are made of.
func pieces() []string {
	out := []string{
		" ", " ", " ", "  ", "0", "1", "7", "12", "_", "_3", "9223372036854775807", "9223372036854775808", "_9223372036854775808", "_9223372036854775809", "000",
		"'", "'", "''", "'a'", "'ab'", "'it''s'", "'⍳'", "a", "b1", "w", "x", "y", "x ", "y+", "abcdefgh", "abcdefghi", "ab ", "i.", "e.", "i. ", " e.", "i", "e", "=: ", "{{ ", " }}",
	}
	for _, w := range sames() {
		out = append(out, w.text)
	}
	return out
}

// wrongPieces are what seldom comes among them.
func wrongPieces() []string {
	return []string{"&", "z", "A", "N", "NB", "NB.", ".", ":", "_", "\"", "}", "^", "ab.", "i:", "xa", "\t", "\n", "\x00", "\x1f", "\x7f", "\u0080", "é", "😀", "\xff", "\x80", "\xe2", "\xe2\x8d", "\xc2", "\xaf", "\xb3"}
}

// chanceText is a text by chance.
func chanceText(r *rand.Rand, right, wrong []string) string {
	var out strings.Builder
	seldom := 2 + r.Intn(40)
	for range r.Intn(20) {
		from := right
		if r.Intn(seldom) == 0 {
			from = wrong
		}
		out.WriteString(from[r.Intn(len(from))])
	}
	return out.String()
}

// TestChance: 13.1 to 13.4, texts by chance, against the chapter said another way.
func TestChance(t *testing.T) {
	r := rand.New(rand.NewSource(13))
	right, wrong := pieces(), wrongPieces()
	seen := map[string]int{}
	for range 100000 {
		s := chanceText(r, right, wrong)
		got, want := lex(s), plainly(s)
		if got != want {
			t.Fatalf("%q: %s; want %s", s, got, want)
		}
		first, _, _ := strings.Cut(want, " ")
		seen[first]++
	}
	for _, name := range []string{"utf8", "syntax", "name", "num", "text", "sign", "open", "close", "set"} {
		if seen[name] < 200 {
			t.Errorf("%s: %d times ahead", name, seen[name])
		}
	}
}

// TestShort: 13.1 to 13.4, every text of up to three of the bytes that play a part, against the chapter said another way.
func TestShort(t *testing.T) {
	const part = "-|<>~,/\\{}^*%+=$#()\"'.:_ 019aieswxyzNB&\xff\t"
	for _, a := range []byte(part) {
		for _, b := range []byte(part) {
			for _, c := range []byte(part) {
				for long := 1; long <= 3; long++ {
					s := string([]byte{a, b, c}[:long])
					if got, want := lex(s), plainly(s); got != want {
						t.Fatalf("%q: %s; want %s", s, got, want)
					}
				}
			}
		}
	}
}

// TestChanceLong: 13.1, longer ones about MaxTokens words and MaxText bytes.
func TestChanceLong(t *testing.T) {
	r := rand.New(rand.NewSource(131))
	right := []string{"+", "a ", "1+", "i.", "(", "'a'", "  ", "1 2 ", "{{", "x ", "=:"}
	wrong := []string{"&", "\xff", "'", "abcdefghi", "9223372036854775808", "_", "'\x01'", " ab. ", " z ", " NB."}
	seen := map[string]int{}
	for range 100 {
		var out strings.Builder
		for range 1200 + r.Intn(3600) {
			out.WriteString(right[r.Intn(len(right))])
		}
		s := out.String()
		if cut := len(s) - len(s)/8; r.Intn(2) == 0 {
			s = s[:cut] + wrong[r.Intn(len(wrong))] + s[cut:]
		}
		got, want := lex(s), plainly(s)
		if got != want {
			t.Fatalf("%s: %s; want %s", short(s), short(got), short(want))
		}
		if want == "long at 0" {
			seen["text"]++
		} else if strings.HasPrefix(want, "long") {
			seen["words"]++
		}
	}
	if seen["text"] == 0 || seen["words"] == 0 {
		t.Errorf("too long: %v", seen)
	}
}

// moved is what Lex says of a text, all places being so many bytes less.
func moved(s string, by int) string {
	l, f := jlex.Lex(s)
	for i := range l {
		l[i].At -= by
	}
	if f.Err != api.OK {
		f.At -= by
	}
	return sayAll(l, f)
}

// TestFollows: 13.5, blanks ahead turn the places alone; and, as in 12.5, what stands behind a remark's beginning plays no part. P7: said twice it is the same.
func TestFollows(t *testing.T) {
	r := rand.New(rand.NewSource(135))
	right, wrong := pieces(), wrongPieces()
	for range 20000 {
		s := chanceText(r, right, wrong)
		was := lex(s)
		if again := lex(s); again != was {
			t.Fatalf("%q: %s, and then %s", s, was, again)
		}
		n := 1 + r.Intn(9)
		if got := moved(strings.Repeat(" ", n)+s, n); got != was {
			t.Fatalf("%q with %d blanks ahead: %s; want %s", s, n, got, was)
		}
		behind := chanceText(r, right, wrong)
		if _, f := jlex.Lex(s); f.Err == api.OK {
			if got := lex(s + "NB." + behind); got != was {
				t.Fatalf("%q, and a remark %q: %s; want %s", s, behind, got, was)
			}
			if got := lex(s + "  NB." + behind); got != was {
				t.Fatalf("%q, blanks, and a remark %q: %s; want %s", s, behind, got, was)
			}
		}
	}
}

// FuzzLex: P1 and 13.1 to 13.4, of any bytes.
func FuzzLex(f *testing.F) {
	for _, s := range append(pieces(), wrongPieces()...) {
		f.Add(s)
		f.Add("a" + s + "1 " + s + "'")
	}
	f.Fuzz(func(t *testing.T, s string) {
		if got, want := lex(s), plainly(s); got != want {
			t.Fatalf("%q: %s; want %s", s, got, want)
		}
	})
}
