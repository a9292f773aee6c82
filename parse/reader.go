package parse

import (
	"keysmith/api"
	"keysmith/scan"
)

// refusal is what a reader throws where it can't go on; Read catches it.
type refusal struct {
	at  int
	why api.Errno
}

// reader goes through a source's words: next is the first that is not read yet, nest how many repeats it stands in.
type reader struct {
	words      []api.Token
	length     int
	next       int
	nest       int
	operations map[string]int
}

// endless is more than there can be of a list that has no limit: each thing has a word, each word a byte.
const endless = api.MaxSource + 1

// operations answers how many args each operation has whose name stands ahead of them.
func operations() map[string]int {
	return map[string]int{
		"kmul": 2, "lt": 2, "mod": 2,
		"sel": 3, "addm": 3, "subm": 3, "mont": 3,
		"pow": 4,
	}
}

// isBetween tells whether an operation is one that stands between its args.
func isBetween(op string) bool {
	return op == "+" || op == "-" || op == "*"
}

// refuse throws an error at the next word; where there is none, words are lacking, whatever was to be found fault with.
func (r *reader) refuse(why api.Errno) {
	if r.next == len(r.words) {
		panic(refusal{r.length, api.ErrMore})
	}
	panic(refusal{r.words[r.next].At, why})
}

// text answers the next word's text, nothing behind the last one.
func (r *reader) text() string {
	if r.next == len(r.words) {
		return ""
	}
	return r.words[r.next].Text
}

func (r *reader) take(text string) bool {
	if r.text() != text {
		return false
	}
	r.next++
	return true
}

func (r *reader) must(text string) {
	if !r.take(text) {
		r.refuse(api.ErrText)
	}
}

func (r *reader) name() string {
	if r.next == len(r.words) || r.words[r.next].Kind != api.TokName || scan.Reserved(r.text()) {
		r.refuse(api.ErrText)
	}
	r.next++
	return r.words[r.next-1].Text
}

// list reads one thing, or more with commas between, behind those of l; where one above the most would begin, it is full.
func list[T any](r *reader, l []T, most int, one func() T) []T {
	for {
		if len(l) == most {
			r.refuse(api.ErrFull)
		}
		l = append(l, one())
		if !r.take(",") {
			return l
		}
	}
}

// angled reads a list in < >, or nothing at all.
func angled[T any](r *reader, one func() T) []T {
	if !r.take("<") {
		return nil
	}
	l := list(r, nil, api.MaxParams, one)
	r.must(">")
	return l
}

// round reads a list in ( ), which may have nothing between them.
func round[T any](r *reader, one func() T) []T {
	r.must("(")
	if r.take(")") {
		return nil
	}
	l := list(r, nil, api.MaxParams, one)
	r.must(")")
	return l
}
