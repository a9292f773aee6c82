package scan

import (
	"iter"
	"unicode/utf8"

	"keysmith/api"
)

// reading goes through a source once: the part it is in, from which byte on; at last, where and why it could not go on.
type reading struct {
	source string
	words  iter.Seq[api.Token]
	goesOn map[int]func(rune) bool
	kind   int
	from   int
	at     int
	why    api.Errno
}

func begin(s string) *reading {
	r := &reading{source: s, goesOn: goings(), kind: white}
	r.words = r.tell
	return r
}

// tell yields each word as soon as it has ended, so that all ahead of an error are told, and an error of a word comes ahead of one that stands behind it.
func (r *reading) tell(yield func(api.Token) bool) {
	for at, c := range r.source {
		right := r.right(at, c)
		if right && r.goesOn[r.kind](c) {
			continue
		}
		if !r.end(at, yield) || !r.start(at, c, right) {
			return
		}
	}
	r.end(len(r.source), yield)
}

// right tells whether UTF-8 is right at a byte: a range over a string tells U+FFFD of wrong bytes, and of U+FFFD itself.
func (r *reading) right(at int, c rune) bool {
	if c != utf8.RuneError {
		return true
	}
	_, size := utf8.DecodeRuneInString(r.source[at:])
	return size > 1
}

// end tells the part that ends ahead of a byte, if it is a word; false: no more is to be told.
func (r *reading) end(at int, yield func(api.Token) bool) bool {
	text := r.source[r.from:at]
	switch r.kind {
	case white, comment:
		return true
	case api.TokNumber:
		if _, ok := Number(text); !ok {
			return r.stop(r.from, api.ErrLong)
		}
	}
	return yield(api.Token{Kind: r.kind, Text: text, At: r.from})
}

// start begins what a rune begins, behind what has just ended; false: nothing may begin there.
func (r *reading) start(at int, c rune, right bool) bool {
	if !right {
		return r.stop(at, api.ErrBad)
	}
	kind := kindOf(c)
	if kind == 0 || kind == api.TokName && r.kind == api.TokNumber {
		return r.stop(at, api.ErrText)
	}
	r.kind, r.from = kind, at
	return true
}

func (r *reading) stop(at int, why api.Errno) bool {
	r.at, r.why = at, why
	return false
}
