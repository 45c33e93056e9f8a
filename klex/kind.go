package klex

import (
	"strings"

	"triglyph/api"
)

const (
	blank  = ' '
	quote  = '"'
	escape = '\\'
	minus  = '-'
	remark = '/'
)

// closers are the bytes beside letters and digits with which an operand may end.
const closers = `)]}"`

// noName are the letters that are in no name.
const noName = "xyz"

// isBlank tells whether a byte is a blank.
func isBlank(c byte) bool { return c == blank }

// isLetter tells whether a byte is a letter of a word, be that a name or none.
func isLetter(c byte) bool { return 'a' <= c && c <= 'z' }

// isDigit tells whether a byte is a digit.
func isDigit(c byte) bool { return '0' <= c && c <= '9' }

// isEscaped tells whether a byte is one that stands in a text behind an escape alone.
func isEscaped(c byte) bool { return c == quote || c == escape }

// isRemark tells whether a remark begins at a place at which a word could begin.
func isRemark(b []byte, at int) bool {
	return b[at] == remark && (at == 0 || isBlank(b[at-1]))
}

// isNumber tells whether a number begins at a place.
func isNumber(b []byte, at int) bool {
	if at < len(b) && b[at] == minus {
		return !isBehindOperand(b, at) && at+1 < len(b) && isDigit(b[at+1])
	}
	return at < len(b) && isDigit(b[at])
}

// isBehindOperand tells whether the byte ahead of a place ends an operand.
func isBehindOperand(b []byte, at int) bool {
	if at == 0 {
		return false
	}
	ahead := b[at-1]
	return isLetter(ahead) || isDigit(ahead) || strings.IndexByte(closers, ahead) >= 0
}

// isName tells whether a word of letters and digits is a name, or that of an argument.
func isName(word string) bool {
	if word == "x" || word == "y" {
		return true
	}
	return len(word) <= api.MaxName && !strings.ContainsAny(word, noName)
}

// same is the kind of the word that is always the same that a byte is; 0: it is none.
func same(c byte) int {
	switch c {
	case ':':
		return api.TSet
	case '(', '{', '[':
		return api.TOpen
	case ')', '}', ']':
		return api.TClose
	case '+', '-', '*', '%', '&', '|', '<', '>', '=', '~', '!', '#', '_', ',', '^', '?', '@', '/', '\\':
		return api.TSign
	}
	return 0
}
