package jlex

import (
	"strings"

	"triglyph/api"
)

// lastAxis is the one word that hangs on what stands behind it.
const lastAxis = `"1`

// noName are the letters, and what may stand behind letters, that are in no name.
const noName = "xyz.:"

// kindOfLetters is the kind of a word of letters, with what belongs to it behind them; 0: there is no such word.
func kindOfLetters(word string) int {
	switch {
	case word == "i.", word == "e.":
		return api.TSign
	case word == "x", word == "y":
		return api.TName
	case len(word) <= api.MaxName && !strings.ContainsAny(word, noName):
		return api.TName
	}
	return 0
}

// same is the kind of the word that is always the same with which bytes begin, and how many bytes it has; 0: there is none.
func same(b []byte) (int, int) {
	if kind := kindOfTwo(b); kind != 0 {
		return kind, 2
	}
	if kind := kindOfOne(b[0]); kind != 0 {
		return kind, 1
	}
	return 0, 0
}

// kindOfTwo is the kind of the word of two bytes with which bytes begin; 0: there is none.
func kindOfTwo(b []byte) int {
	if len(b) < 2 {
		return 0
	}
	switch string(b[:2]) {
	case "=:":
		return api.TSet
	case "{{":
		return api.TOpen
	case "}}":
		return api.TClose
	case "-.", "|.", "|:", "<.", "<:", ">.", ">:", "~.", "~:", ",:", "/:", `\:`, "{.", "}.", "^:":
		return api.TSign
	case lastAxis:
		// With a digit behind it the number would be another one.
		if len(b) == 2 || !isDigit(b[2]) {
			return api.TSign
		}
	}
	return 0
}

// kindOfOne is the kind of the word of one byte; 0: there is none.
func kindOfOne(b byte) int {
	switch b {
	case '(':
		return api.TOpen
	case ')':
		return api.TClose
	case '-', '*', '|', '%', '+', '<', '>', '=', '~', '$', '#', ',', '/', '\\', '{':
		return api.TSign
	}
	return 0
}
