package scan

import (
	"strings"
	"unicode/utf8"

	"keysmith/api"
)

// What else there is in a source, beside the kinds of words; a rune that begins nothing has kind 0.
const (
	white = api.TokSign + 1 + iota
	comment
)

// Letter tells whether a rune is a letter.
func Letter(r rune) bool {
	if r < utf8.RuneSelf {
		return 'a' <= r && r <= 'z' || 'A' <= r && r <= 'Z' || r == '_'
	}
	return utf8.ValidRune(r)
}

func isDigit(r rune) bool {
	return '0' <= r && r <= '9'
}

func isSign(r rune) bool {
	return strings.ContainsRune("()[]{}<>,;:=+-*", r)
}

func isWhite(r rune) bool {
	return r == ' ' || r == '\t' || r == '\n' || r == '\r'
}

// kindOf answers the kind of what a rune begins.
func kindOf(r rune) int {
	switch {
	case Letter(r):
		return api.TokName
	case isDigit(r):
		return api.TokNumber
	case isSign(r):
		return api.TokSign
	case isWhite(r):
		return white
	case r == '#':
		return comment
	}
	return 0
}

// goings answers, for each kind, what tells whether a rune goes on with what is of that kind.
func goings() map[int]func(rune) bool {
	return map[int]func(rune) bool{
		api.TokName:   func(r rune) bool { return Letter(r) || isDigit(r) },
		api.TokNumber: isDigit,
		api.TokSign:   func(rune) bool { return false },
		white:         isWhite,
		comment:       func(r rune) bool { return r != '\n' },
	}
}
