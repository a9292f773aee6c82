package scan

import (
	"math/big"
	"regexp"
	"slices"
	"strings"
	"testing"
	"unicode/utf8"

	"keysmith/api"
)

const letters = `a-zA-Z_\x{80}-\x{10ffff}`

// parts are what a source is made of: what is found first of a row counts; the last one is a letter behind a number.
var (
	between = regexp.MustCompile(`^([ \t\n\r]|#[^\n]*)`)
	parts   = []struct {
		kind int
		form *regexp.Regexp
	}{
		{api.TokName, regexp.MustCompile(`^[` + letters + `][` + letters + `0-9]*`)},
		{api.TokNumber, regexp.MustCompile(`^[0-9]+`)},
		{api.TokSign, regexp.MustCompile(`^[()\[\]{}<>,;:=+\-*]`)},
	}
	letter = regexp.MustCompile(`^[` + letters + `]`)
)

// rightUpTo answers how many bytes are right UTF-8 ahead of the first that is not.
func rightUpTo(s string) int {
	at := 0
	for at < len(s) {
		r, size := utf8.DecodeRuneInString(s[at:])
		if r == utf8.RuneError && size == 1 {
			return at
		}
		at += size
	}
	return at
}

func below2to64(s string) bool {
	n, ok := new(big.Int).SetString(s, 10)
	return ok && n.IsUint64()
}

// modelAll is what All should answer, and the words ahead of an error: it cuts the source where its UTF-8 ends, and takes pieces off by patterns.
func modelAll(s string) (l []api.Token, at int, e api.Errno) {
	if len(s) > 1<<16 {
		return nil, 0, api.ErrLong
	}
	end := rightUpTo(s)
	for at < end {
		rest := s[at:end]
		if w := between.FindString(rest); w != "" {
			at += len(w)
			continue
		}
		kind, text := 0, ""
		for _, p := range parts {
			if text = p.form.FindString(rest); text != "" {
				kind = p.kind
				break
			}
		}
		if kind == 0 {
			return l, at, api.ErrText
		}
		if kind == api.TokNumber && !below2to64(text) {
			return l, at, api.ErrLong
		}
		l = append(l, api.Token{Kind: kind, Text: text, At: at})
		at += len(text)
		if kind == api.TokNumber && letter.MatchString(rest[len(text):]) {
			return l, at, api.ErrText
		}
	}
	if end < len(s) {
		return l, end, api.ErrBad
	}
	return l, len(s), api.OK
}

// like holds All and Each of a source against the model.
func like(t *testing.T, s string) {
	t.Helper()
	ahead, at, e := modelAll(s)
	holds(t, s, ahead, at, e)
}

// holds holds All and Each of a source against what they should answer; ahead are the words ahead of the error, if there is one.
func holds(t *testing.T, s string, ahead []api.Token, at int, e api.Errno) {
	t.Helper()
	want := ahead
	if e != api.OK {
		want = nil
	}
	if l, a, er := All(s); !slices.Equal(l, want) || a != at || er != e {
		t.Fatalf("All of %.80q: %v, %d, %d, not %v, %d, %d", s, l, a, er, want, at, e)
	}
	if l := slices.Collect(Each(s)); !slices.Equal(l, ahead) {
		t.Fatalf("Each of %.80q: %v, not %v", s, l, ahead)
	}
}

// words answers words by hand: of each text its kind by how it begins, one behind the other, at these places.
func words(texts string, places ...int) []api.Token {
	var l []api.Token
	for i, s := range strings.Split(texts, " ") {
		kind := api.TokName
		switch {
		case '0' <= s[0] && s[0] <= '9':
			kind = api.TokNumber
		case strings.Contains("()[]{}<>,;:=+-*", s):
			kind = api.TokSign
		}
		l = append(l, api.Token{Kind: kind, Text: s, At: places[i]})
	}
	return l
}
