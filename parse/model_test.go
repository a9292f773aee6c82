package parse

import (
	"fmt"
	"math/big"
	"reflect"
	"regexp"
	"slices"
	"sort"
	"strings"
	"testing"

	"keysmith/api"
	"keysmith/scan"
)

// model is the chapter's grammar as rules: a thing's name, and the rows that it may be. What has no rule is a word: itself, or one of those that matches knows; one with a ! is an error.
var model = makeModel()

// rule adds rows of a thing.
func rule(m map[string][]string, name string, rows ...string) {
	m[name] = append(m[name], rows...)
}

// ruleList adds the rules of things with commas between, so many at most (0: as many as may be).
func ruleList(m map[string][]string, name, item string, most int) {
	if most == 0 {
		rule(m, name, item+" "+name+".more")
		rule(m, name+".more", "", ", "+name)
		return
	}
	rule(m, name, item+" "+name+".1")
	for i := 1; i < most; i++ {
		rule(m, fmt.Sprint(name, ".", i), "", fmt.Sprint(", ", item, " ", name, ".", i+1))
	}
	rule(m, fmt.Sprint(name, ".", most), "", ", FULL!")
}

func makeModel() map[string][]string {
	m := map[string][]string{}
	rule(m, "source", "procedure source.1")
	for i := 1; i < 16; i++ {
		rule(m, fmt.Sprint("source.", i), "", fmt.Sprint("procedure source.", i+1))
	}
	rule(m, "source.16", "", "FULL!proc")
	rule(m, "procedure", "proc NAME LENS ( PARAMS ) REQ ENS { body.0 }")
	rule(m, "LENS", "", "< names >")
	ruleList(m, "names", "NAME", 12)
	rule(m, "PARAMS", "", "params")
	ruleList(m, "params", "param", 12)
	rule(m, "REQ", "", "requires clauses")
	rule(m, "ENS", "", "ensures clauses")
	ruleList(m, "clauses", "clause", 0)
	rule(m, "param", "public NAME [ length ]", "secret NAME [ length ]", "out NAME [ length ]")
	rule(m, "clause", "odd NAME", "ZERO < NAME", "NAME < NAME")
	rule(m, "length", "item length.more")
	rule(m, "length.more", "", "+ length")
	rule(m, "item", "SMALL item.times", "LONG!", "NAME")
	rule(m, "item.times", "", "* NAME")
	for i := 0; i <= 4; i++ {
		body, one := fmt.Sprint("body.", i), fmt.Sprint("statement.", i)
		rule(m, body, "", one+" "+body)
		rule(m, one, "let NAME [ length ] = expression ;", "NAME = expression ;", "swap NAME NAME NAME ;", "call NAME LENGTHS ( NAMES ) ;")
		if i == 4 {
			rule(m, one, "FULL!repeat")
		} else {
			rule(m, one, fmt.Sprint("repeat length { body.", i+1, " }"))
		}
	}
	rule(m, "LENGTHS", "", "< lengths >")
	ruleList(m, "lengths", "length", 12)
	rule(m, "NAMES", "", "names")
	rule(m, "expression", "arg", "arg + arg", "arg - arg", "arg * arg")
	for _, op := range strings.Fields("kmul lt sel mod addm subm mont pow") {
		rule(m, "expression", op+" ( args )")
	}
	ruleList(m, "args", "arg", 0)
	rule(m, "arg", "NAME", "NUMBER")
	return m
}

func matches(symbol string, w api.Token) bool {
	n, _ := new(big.Int).SetString(w.Text, 10)
	switch symbol {
	case "NAME":
		return w.Kind == api.TokName && !scan.Reserved(w.Text)
	case "NUMBER":
		return w.Kind == api.TokNumber
	case "ZERO":
		return w.Kind == api.TokNumber && n.Sign() == 0
	case "SMALL":
		return w.Kind == api.TokNumber && n.Cmp(big.NewInt(1<<20)) <= 0
	case "LONG!":
		return w.Kind == api.TokNumber && n.Cmp(big.NewInt(1<<20)) > 0
	case "FULL!":
		return true
	}
	return strings.TrimPrefix(symbol, "FULL!") == w.Text
}

// opened answers the rows of words that may stand for what is still to come, each begun with a word, or empty.
func opened(rest string, into map[string]bool) {
	first, more, _ := strings.Cut(rest, " ")
	rows, thing := model[first]
	if !thing {
		into[rest] = true
		return
	}
	for _, row := range rows {
		opened(strings.TrimSpace(row+" "+more), into)
	}
}

// modelRead is what Read should answer but for the procedures: all that may still come is kept, word by word.
func modelRead(s string) (at int, e api.Errno) {
	l, at, e := scan.All(s)
	if e != api.OK {
		return at, e
	}
	now := map[string]bool{}
	opened("source", now)
	for _, w := range l {
		next := map[string]bool{}
		for rest := range now {
			first, more, _ := strings.Cut(rest, " ")
			if first == "" || !matches(first, w) {
				continue
			}
			if strings.HasPrefix(first, "FULL!") {
				return w.At, api.ErrFull
			}
			if first == "LONG!" {
				return w.At, api.ErrLong
			}
			opened(more, next)
		}
		if len(next) == 0 {
			return w.At, api.ErrText
		}
		now = next
	}
	if !now[""] {
		return len(s), api.ErrMore
	}
	return len(s), api.OK
}

var (
	noughts = regexp.MustCompile(`(^| )0+([0-9]+)`)
	places  = []*regexp.Regexp{
		regexp.MustCompile(`(\[ )([^\]]+)( \])`),
		regexp.MustCompile(`( repeat )([^{]+)( \{)`),
		regexp.MustCompile(`( call [^ ]+ < )([^>]+)( >)`),
	}
)

// modelText is what Text should answer of a source that may be: its words, but for noughts ahead of numbers and what lengths come to.
func modelText(s string) string {
	l, _, _ := scan.All(s)
	text := noughts.ReplaceAllString(scan.Text(l), "$1$2")
	for _, place := range places {
		text = place.ReplaceAllStringFunc(text, func(part string) string {
			x := place.FindStringSubmatch(part)
			lengths := strings.Split(x[2], " , ")
			for i := range lengths {
				lengths[i] = modelLength(lengths[i])
			}
			return x[1] + strings.Join(lengths, " , ") + x[3]
		})
	}
	return text
}

// modelLength is the text of a length that was written so.
func modelLength(written string) string {
	times := map[string]*big.Int{"": new(big.Int)}
	for _, item := range strings.Split(written, " + ") {
		left, name, product := strings.Cut(item, " * ")
		n, number := new(big.Int).SetString(left, 10)
		if !number {
			n, name = big.NewInt(1), left
		} else if !product {
			name = ""
		}
		if times[name] == nil {
			times[name] = new(big.Int)
		}
		times[name].Add(times[name], n)
	}
	var l []string
	for name, n := range times {
		if n.Sign() > 0 && name != "" {
			l = append(l, name)
		}
	}
	sort.Strings(l)
	for i, name := range l {
		if n := times[name].String(); n != "1" {
			l[i] = n + " * " + name
		}
	}
	if len(l) == 0 || times[""].Sign() > 0 {
		l = slices.Insert(l, 0, times[""].String())
	}
	return strings.Join(l, " + ")
}

// like holds Read of a source against the model; of what may be Text, too, and what Text's words are read as.
func like(t *testing.T, s string) []api.Proc {
	t.Helper()
	wantAt, want := modelRead(s)
	l, at, e := Read(s)
	if at != wantAt || e != want || (e == api.OK) != (len(l) > 0) {
		t.Fatalf("Read of %.300q: %d procedures, %d, %d, not %d, %d", s, len(l), at, e, wantAt, want)
	}
	if e != api.OK {
		return nil
	}
	text := Text(l)
	if m := modelText(s); text != m {
		t.Fatalf("Text of %.300q: %.300q, not %.300q", s, text, m)
	}
	again, at, e := Read(text)
	if wantAt, want = modelRead(text); at != wantAt || e != want || (e == api.OK) != mayBeRead(text) {
		t.Fatalf("Read of %.300q: %d, %d, not %d, %d", text, at, e, wantAt, want)
	}
	if e == api.OK && (!Same(l, again) || !Same(again, l) || !reflect.DeepEqual(l, again)) {
		t.Fatalf("Read of %.300q is not the same as of %.300q", text, s)
	}
	return l
}

// mayBeRead tells whether a text of what was read is within what a source may be: it may have more bytes than the source had, and a length may come to more than one of its numbers.
func mayBeRead(text string) bool {
	if len(text) > 1<<16 {
		return false
	}
	for _, place := range places {
		for _, part := range place.FindAllString(text, -1) {
			for _, w := range strings.Fields(part) {
				if n, number := new(big.Int).SetString(w, 10); number && n.Cmp(big.NewInt(1<<20)) > 0 {
					return false
				}
			}
		}
	}
	return true
}
