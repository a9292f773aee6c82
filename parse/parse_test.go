package parse

import (
	"fmt"
	"math/rand"
	"reflect"
	"strings"
	"testing"

	"keysmith/api"
)

func names(s string) []string {
	return strings.Fields(s)
}

func length(n int, terms ...api.Term) api.Len {
	return api.Len{Const: n, Terms: terms}
}

func args(s string) []api.Arg {
	var l []api.Arg
	for _, w := range strings.Fields(s) {
		a := api.Arg{Name: w}
		if n, e := fmt.Sscan(w, &a.Num); n == 1 && e == nil {
			a.Name = ""
		}
		l = append(l, a)
	}
	return l
}

// reads holds Read of a source against what it should be.
func reads(t *testing.T, s string, want ...api.Proc) {
	t.Helper()
	l, at, e := Read(s)
	if !reflect.DeepEqual(l, want) || at != len(s) || e != api.OK {
		t.Errorf("Read of %.300q: %+v, %d, %d, not %+v", s, l, at, e, want)
	}
	like(t, s)
}

// refuses holds Read of a source against an error and its place.
func refuses(t *testing.T, s string, wantAt int, want api.Errno) {
	t.Helper()
	if l, at, e := Read(s); len(l) != 0 || at != wantAt || e != want {
		t.Errorf("Read of %.300q: %+v, %d, %d, not %d, %d", s, l, at, e, wantAt, want)
	}
	like(t, s)
}

// readsBody holds statements, in a procedure, against what they should be.
func readsBody(t *testing.T, s string, want ...api.Stmt) {
	t.Helper()
	reads(t, "proc f(){"+s+"}", api.Proc{Name: "f", Body: want})
}

// P17.1: the chapter's examples
func TestExamples(t *testing.T) {
	reads(t, "proc f<k>(secret a[k], out r[2*k]) { r = a * a; }", api.Proc{
		Name: "f",
		Lens: names("k"),
		Params: []api.Param{
			{Mode: api.ModeSecret, Name: "a", Len: length(0, api.Term{Name: "k", Times: 1})},
			{Mode: api.ModeOut, Name: "r", Len: length(0, api.Term{Name: "k", Times: 2})},
		},
		Body: []api.Stmt{{Kind: api.StmtSet, Name: "r", Expr: api.Expr{Op: "*", Args: args("a a")}}},
	})
	refuses(t, "proc f(", 7, api.ErrMore)
}

// P17.1: procedures, with and without each part
func TestProcedures(t *testing.T) {
	f := api.Proc{Name: "f"}
	reads(t, "proc f(){}", f)
	reads(t, "proc f(){}proc g(){}proc f(){}", f, api.Proc{Name: "g"}, f)
	reads(t, " # first\n\tproc\r\nf ( ) { # x\n } # last", f)
	reads(t, "proc f<a>(){}", api.Proc{Name: "f", Lens: names("a")})
	reads(t, "proc f<b,a,b>(){}", api.Proc{Name: "f", Lens: names("b a b")})
	reads(t, "proc é1(public _[1],secret b[2],out c[3],public _[4]){}", api.Proc{Name: "é1", Params: []api.Param{
		{Mode: api.ModePublic, Name: "_", Len: length(1)},
		{Mode: api.ModeSecret, Name: "b", Len: length(2)},
		{Mode: api.ModeOut, Name: "c", Len: length(3)},
		{Mode: api.ModePublic, Name: "_", Len: length(4)},
	}})
	odd, less, pos := api.Clause{Kind: api.ClauseOdd, A: "a"}, api.Clause{Kind: api.ClauseLess, A: "a", B: "b"}, api.Clause{Kind: api.ClausePos, A: "c"}
	reads(t, "proc f()requires odd a{}", api.Proc{Name: "f", Requires: []api.Clause{odd}})
	reads(t, "proc f()ensures a<b{}", api.Proc{Name: "f", Ensures: []api.Clause{less}})
	reads(t, "proc f()requires 0<c,a<b,odd a,odd a ensures 00<c,000000000000000000000<c{}", api.Proc{Name: "f", Requires: []api.Clause{pos, less, odd, odd}, Ensures: []api.Clause{pos, pos}})
}

// P17.1: lengths are put together, whatever the order they are written in.
func TestLengths(t *testing.T) {
	a, b2 := api.Term{Name: "a", Times: 1}, api.Term{Name: "b", Times: 2}
	for _, x := range []struct {
		s    string
		want api.Len
		text string
	}{
		{"0", length(0), "0"},
		{"00", length(0), "0"},
		{"7", length(7), "7"},
		{"007", length(7), "7"},
		{"0+0", length(0), "0"},
		{"1+2+3", length(6), "6"},
		{"a", length(0, a), "a"},
		{"1*a", length(0, a), "a"},
		{"2*b", length(0, b2), "2 * b"},
		{"b+b", length(0, b2), "2 * b"},
		{"b+1*b+0*b", length(0, b2), "2 * b"},
		{"0*a", length(0), "0"},
		{"0*a+0*b+5", length(5), "5"},
		{"0*a+a", length(0, a), "a"},
		{"b+a+b", length(0, a, b2), "a + 2 * b"},
		{"b+1+a+2+b", length(3, a, b2), "3 + a + 2 * b"},
		{"é+z+_+B+a", length(0, api.Term{Name: "B", Times: 1}, api.Term{Name: "_", Times: 1}, a, api.Term{Name: "z", Times: 1}, api.Term{Name: "é", Times: 1}), "B + _ + a + z + é"},
		{"a10+a9+a", length(0, a, api.Term{Name: "a10", Times: 1}, api.Term{Name: "a9", Times: 1}), "a + a10 + a9"},
		{"1048576", length(1 << 20), "1048576"},
		{"1048576*a", length(0, api.Term{Name: "a", Times: 1 << 20}), "1048576 * a"},
		{"0001048576+1048576*a", length(1<<20, api.Term{Name: "a", Times: 1 << 20}), "1048576 + 1048576 * a"},
	} {
		if s := Length(x.want); s != x.text {
			t.Errorf("Length of %+v: %q, not %q", x.want, s, x.text)
		}
		reads(t, "proc f(out r["+x.s+"]){}", api.Proc{Name: "f", Params: []api.Param{{Mode: api.ModeOut, Name: "r", Len: x.want}}})
		readsBody(t, "let x["+x.s+"]=1;", api.Stmt{Kind: api.StmtLet, Name: "x", Len: x.want, Expr: api.Expr{Args: args("1")}})
		readsBody(t, "repeat "+x.s+"{}", api.Stmt{Kind: api.StmtRepeat, Len: x.want})
		readsBody(t, "call g<"+x.s+",9>();", api.Stmt{Kind: api.StmtCall, Name: "g", Lens: []api.Len{x.want, length(9)}})
	}
}

// P17.1: a length may come to more than one of its numbers may be.
func TestSumsOfLengths(t *testing.T) {
	l, _, e := Read("proc f(out r[1048576+1+1048576*a+a]){}")
	if want := length(1<<20+1, api.Term{Name: "a", Times: 1<<20 + 1}); e != api.OK || !reflect.DeepEqual(l[0].Params[0].Len, want) {
		t.Error(l, e)
	}
	s := "proc f(out r[" + strings.Repeat("1048576+", 4000) + strings.Repeat("1048576*a+", 3000) + "0]){}"
	l, _, e = Read(s)
	if want := length(4000<<20, api.Term{Name: "a", Times: 3000 << 20}); e != api.OK || !reflect.DeepEqual(l[0].Params[0].Len, want) {
		t.Error(l, e)
	}
	if text := Length(l[0].Params[0].Len); text != "4194304000 + 3145728000 * a" {
		t.Error(text)
	}
}

// P17.1: statements, each kind with just what it has
func TestStatements(t *testing.T) {
	copied := api.Expr{Args: args("a")}
	set := api.Stmt{Kind: api.StmtSet, Name: "r", Expr: copied}
	swap := api.Stmt{Kind: api.StmtSwap, Names: names("c x y")}
	readsBody(t, "r=a;", set)
	readsBody(t, "r=a;r=a;swap c x y;", set, set, swap)
	readsBody(t, "swap c c c;", api.Stmt{Kind: api.StmtSwap, Names: names("c c c")})
	readsBody(t, "let r[2]=a;", api.Stmt{Kind: api.StmtLet, Name: "r", Len: length(2), Expr: copied})
	readsBody(t, "call g();", api.Stmt{Kind: api.StmtCall, Name: "g"})
	readsBody(t, "call g(b,a,b);", api.Stmt{Kind: api.StmtCall, Name: "g", Names: names("b a b")})
	readsBody(t, "call g<2>();", api.Stmt{Kind: api.StmtCall, Name: "g", Lens: []api.Len{length(2)}})
	readsBody(t, "call g<k+1,2>(a);", api.Stmt{Kind: api.StmtCall, Name: "g", Lens: []api.Len{length(1, api.Term{Name: "k", Times: 1}), length(2)}, Names: names("a")})
	two := api.Stmt{Kind: api.StmtRepeat, Len: length(2), Body: []api.Stmt{set, swap}}
	readsBody(t, "repeat 2{r=a;swap c x y;}", two)
	readsBody(t, "repeat 1{repeat 2{r=a;swap c x y;}repeat 0{}}swap c x y;", api.Stmt{Kind: api.StmtRepeat, Len: length(1), Body: []api.Stmt{two, {Kind: api.StmtRepeat}}}, swap)
}

// P17.1: expressions, of each operation, of one arg and many
func TestExpressions(t *testing.T) {
	for _, x := range []struct {
		s    string
		want api.Expr
	}{
		{"a", api.Expr{Args: args("a")}},
		{"0", api.Expr{Args: args("0")}},
		{"007", api.Expr{Args: args("7")}},
		{"18446744073709551615", api.Expr{Args: []api.Arg{{Num: 1<<64 - 1}}}},
		{"a+b", api.Expr{Op: "+", Args: args("a b")}},
		{"a-3", api.Expr{Op: "-", Args: args("a 3")}},
		{"3*4", api.Expr{Op: "*", Args: args("3 4")}},
		{"18446744073709551615+1048577", api.Expr{Op: "+", Args: []api.Arg{{Num: 1<<64 - 1}, {Num: 1<<20 + 1}}}},
	} {
		readsBody(t, "r="+x.s+";", api.Stmt{Kind: api.StmtSet, Name: "r", Expr: x.want})
		readsBody(t, "let r[1]="+x.s+";", api.Stmt{Kind: api.StmtLet, Name: "r", Len: length(1), Expr: x.want})
	}
	for _, op := range names("kmul lt sel mod addm subm mont pow") {
		for _, l := range []string{"a", "7", "a b", "a 1 c", "0 b c 6", "a b c d e", strings.Repeat("a 5 ", 20)} {
			s := "r=" + op + "(" + strings.Join(strings.Fields(l), ",") + ");"
			readsBody(t, s, api.Stmt{Kind: api.StmtSet, Name: "r", Expr: api.Expr{Op: op, Args: args(l)}})
			readsBody(t, "let x[k]="+s[2:], api.Stmt{Kind: api.StmtLet, Name: "x", Len: length(0, api.Term{Name: "k", Times: 1}), Expr: api.Expr{Op: op, Args: args(l)}})
		}
	}
}

// P17.1: sources by chance, with white by chance, are read as they were made.
func TestSourcesByChance(t *testing.T) {
	m := &maker{Rand: rand.New(rand.NewSource(17))}
	for range 1500 {
		want := m.source(4)
		s := m.spread()
		if l, at, e := Read(s); e != api.OK || at != len(s) || !reflect.DeepEqual(l, want) {
			t.Fatalf("Read of %q: %d, %d: %+v, not %+v", s, at, e, l, want)
		}
		if l := like(t, s); !Same(l, want) || Count(l) != modelCount(m.words) {
			t.Fatalf("Same or Count of %q: %d", s, Count(l))
		}
	}
}

// modelCount answers how many statements there are in a source's words: each ends with a ;, or is a repeat.
func modelCount(words []string) int {
	n := 0
	for _, w := range words {
		if w == ";" || w == "repeat" {
			n++
		}
	}
	return n
}
