package parse

import (
	"math"
	"math/rand"
	"strings"
	"testing"

	"keysmith/api"
	"keysmith/scan"
)

// P17.2: Text of what was read, by hand
func TestTexts(t *testing.T) {
	for _, x := range []struct{ s, want string }{
		{"proc f(){}", "proc f ( ) { }"},
		{"proc f(){}proc g<k>(){}", "proc f ( ) { } proc g < k > ( ) { }"},
		{"proc f<k,m>(public a[k],secret b[02*k+m+1],out r[0])requires odd a,00<b ensures a<b{}", "proc f < k , m > ( public a [ k ] , secret b [ 1 + 2 * k + m ] , out r [ 0 ] ) requires odd a , 0 < b ensures a < b { }"},
		{"proc f()ensures odd a{}", "proc f ( ) ensures odd a { }"},
		{"proc f(){let x[k+k]=007;x=a;x=a+1;x=1-a;x=a*a;x=mod(a,b);x=pow(a,b,c,6);x=sel(a);}", "proc f ( ) { let x [ 2 * k ] = 7 ; x = a ; x = a + 1 ; x = 1 - a ; x = a * a ; x = mod ( a , b ) ; x = pow ( a , b , c , 6 ) ; x = sel ( a ) ; }"},
		{"proc f(){swap c x y;call g();call g<1>(a);call g<k,2*k+3>(a,b);}", "proc f ( ) { swap c x y ; call g ( ) ; call g < 1 > ( a ) ; call g < k , 3 + 2 * k > ( a , b ) ; }"},
		{"proc f(){repeat 2{repeat k{}x=a;repeat 3*k{x=b;}}x=c;repeat 0{}}", "proc f ( ) { repeat 2 { repeat k { } x = a ; repeat 3 * k { x = b ; } } x = c ; repeat 0 { } }"},
		{"proc f(){repeat 1{repeat 2{repeat 3{repeat 4{}}}}}proc g(){repeat 1{}}", "proc f ( ) { repeat 1 { repeat 2 { repeat 3 { repeat 4 { } } } } } proc g ( ) { repeat 1 { } }"},
		{" # x\nproc\tf ( ) { } # y", "proc f ( ) { }"},
	} {
		l := like(t, x.s)
		if s := Text(l); s != x.want {
			t.Errorf("Text of %q: %q, not %q", x.s, s, x.want)
		}
		if l := like(t, x.want); Text(l) != x.want {
			t.Errorf("Text of %q: %q", x.want, Text(l))
		}
	}
	for _, l := range [][]api.Proc{nil, {}} {
		if s := Text(l); s != "" {
			t.Errorf("%q", s)
		}
	}
}

// P17.2: Length of lengths that no source has, too: the number first, terms as they stand
func TestLengthTexts(t *testing.T) {
	a, b := api.Term{Name: "a", Times: 1}, api.Term{Name: "b", Times: 2}
	for _, x := range []struct {
		l    api.Len
		want string
	}{
		{api.Len{}, "0"},
		{api.Len{Terms: []api.Term{}}, "0"},
		{length(5), "5"},
		{length(0, a), "a"},
		{length(5, a), "5 + a"},
		{length(0, a, b), "a + 2 * b"},
		{length(1, b, a, b), "1 + 2 * b + a + 2 * b"},
		{length(0, api.Term{Name: "k", Times: 0}), "0 * k"},
		{length(0, api.Term{Name: "k", Times: 10}), "10 * k"},
		{length(1<<20+1, api.Term{Name: "k", Times: 1<<20 + 1}), "1048577 + 1048577 * k"},
		{length(math.MaxInt, api.Term{Name: "k", Times: math.MaxInt}), "9223372036854775807 + 9223372036854775807 * k"},
		{length(math.MinInt, api.Term{Name: "k", Times: -1}), "-9223372036854775808 + -1 * k"},
	} {
		if s := Length(x.l); s != x.want {
			t.Errorf("Length of %+v: %q, not %q", x.l, s, x.want)
		}
	}
}

// P17.2: of each kind there is just what it has, whatever else stands in it.
func TestTextsByHand(t *testing.T) {
	all := api.Stmt{
		Name:  "x",
		Len:   length(2),
		Expr:  api.Expr{Op: "+", Args: []api.Arg{{Name: "a", Num: 7}, {Num: 8}}},
		Names: names("b c d"),
		Lens:  []api.Len{length(3), length(4)},
		Body:  []api.Stmt{{Kind: api.StmtSwap, Names: names("u v w")}, {Kind: api.StmtRepeat, Body: []api.Stmt{{Kind: api.StmtSwap}}}},
	}
	inner := "swap u v w ; repeat 0 { swap ; }"
	for kind, want := range map[int]string{
		api.StmtLet:    "let x [ 2 ] = a + 8 ; ",
		api.StmtSet:    "x = a + 8 ; ",
		api.StmtRepeat: "repeat 2 { " + inner + " } ",
		api.StmtSwap:   "swap b c d ; ",
		api.StmtCall:   "call x < 3 , 4 > ( b , c , d ) ; ",
		0:              "",
		-1:             "",
		6:              "",
		math.MaxInt:    "",
	} {
		s := all
		s.Kind = kind
		last := api.Stmt{Kind: api.StmtSet, Name: "y", Expr: api.Expr{Args: []api.Arg{{}}}}
		outer := api.Stmt{Kind: api.StmtRepeat, Len: length(1), Body: []api.Stmt{s, last, s}}
		body := []api.Stmt{s, last, outer, s, last}
		text := want + "y = 0 ; repeat 1 { " + want + "y = 0 ; " + want + "} " + want + "y = 0 ; "
		if got := Text([]api.Proc{{Name: "f", Body: body}}); got != "proc f ( ) { "+text+"}" {
			t.Errorf("kind %d: %q, not %q", kind, got, text)
		}
	}
	p := api.Proc{Name: "f", Requires: []api.Clause{{Kind: api.ClauseOdd, A: "a", B: "b"}, {Kind: api.ClausePos, A: "a", B: "b"}, {Kind: api.ClauseLess, A: "a", B: "b"}}}
	if s := Text([]api.Proc{p}); s != "proc f ( ) requires odd a , 0 < a , a < b { }" {
		t.Error(s)
	}
	p = api.Proc{Name: "f", Lens: []string{}, Params: []api.Param{}, Requires: []api.Clause{}, Ensures: []api.Clause{}, Body: []api.Stmt{}}
	if s := Text([]api.Proc{p}); s != "proc f ( ) { }" {
		t.Error(s)
	}
	p = api.Proc{Name: "f", Body: []api.Stmt{{Kind: api.StmtCall, Name: "g", Lens: []api.Len{}, Names: []string{}}}}
	if s := Text([]api.Proc{p}); s != "proc f ( ) { call g ( ) ; }" {
		t.Error(s)
	}
}

// P17.2, T6: what no source tells has a text, too, with no parts that are empty.
func TestTextsOfNoSource(t *testing.T) {
	bad := []api.Proc{
		{},
		{Lens: []string{""}, Params: []api.Param{{}, {Mode: -1, Name: "a"}, {Mode: 4}}, Requires: []api.Clause{{}, {Kind: 4, A: "a"}}, Ensures: []api.Clause{{Kind: -1}}},
		{Requires: []api.Clause{{}, {Kind: api.ClauseOdd}, {}}},
		{Lens: []string{"", "a", "", "b"}},
	}
	for kind := -1; kind < 7; kind++ {
		for _, op := range []string{"", "+", "-", "*", "mod", "foo", "\xff"} {
			for _, l := range [][]api.Arg{nil, {}, {{}}, {{Name: "a"}, {}}, {{}, {Name: "b"}, {Num: 7}}} {
				s := api.Stmt{Kind: kind, Expr: api.Expr{Op: op, Args: l}}
				s.Body = []api.Stmt{s, s}
				bad = append(bad, api.Proc{Body: []api.Stmt{s, s}})
			}
		}
		bad = append(bad, api.Proc{Body: []api.Stmt{{Kind: kind}, {Kind: kind, Names: names("a b c d"), Lens: []api.Len{{}}}, {Kind: kind, Names: []string{"", ""}}}})
	}
	for i := range bad {
		s := Text(bad[i : i+1])
		if s == "" || strings.Contains(s, "  ") || strings.TrimSpace(s) != s {
			t.Errorf("%q of %+v", s, bad[i])
		}
	}
	if s := Text(bad[3:4]); s != "proc < a , b > ( ) { }" {
		t.Error(s)
	}
	if s := Text(bad[2:3]); s != "proc ( ) requires odd { }" {
		t.Error(s)
	}
}

// P17.2: Text is words with a blank between, a source's own but for how numbers and lengths are written.
func TestTextsByChance(t *testing.T) {
	m := &maker{Rand: rand.New(rand.NewSource(18))}
	for range 500 {
		s := Text(m.source(3))
		l, _, e := scan.All(s)
		if e != api.OK || scan.Text(l) != s {
			t.Fatalf("%q: %d", s, e)
		}
		if want := modelText(strings.Join(m.words, " ")); s != want {
			t.Fatalf("%q, not %q", s, want)
		}
	}
}

// P17.3: where a text is longer than a source may be, or a length comes to more than its numbers may be, that is what Read answers of it.
func TestTextsBeyondLimits(t *testing.T) {
	l, _, e := Read("proc f(){" + strings.Repeat("a=b;", 12000) + "}")
	if _, at, er := Read(Text(l)); e != api.OK || at != 0 || er != api.ErrLong {
		t.Error(e, at, er)
	}
	l, _, e = Read("proc f(out a[1048576+1]){}")
	if _, at, er := Read(Text(l)); e != api.OK || at != len("proc f ( out a [ ") || er != api.ErrLong {
		t.Error(e, at, er)
	}
}
