package parse

import (
	"fmt"
	"math/rand"
	"slices"
	"strings"
	"testing"

	"keysmith/api"
)

// whole has all that a source may have; allWords are words of all sorts.
const whole = "proc f < k , m > ( public a [ k ] , secret b [ 2 * k + m + 3 ] , out r [ 1 ] ) requires odd a , 0 < b , a < b ensures 00 < r , odd b { " +
	"let x [ 2 * k + 1 ] = a ; r = 3 ; r = a + 3 ; r = 3 - b ; r = a * b ; r = kmul ( a , b ) ; x = pow ( a , b , 5 , 6 ) ; " +
	"repeat 2 * k { swap a b r ; repeat 1 { repeat m { repeat 1 + 1 { r = a ; } } } call g ( ) ; } " +
	"call g < 1 , 2 * k + 3 , m > ( a , b ) ; call g < k > ( ) ; } proc g ( ) { } proc h < n > ( out a [ n ] ) ensures a < a { }"

var allWords = strings.Fields("proc requires ensures odd public secret out let repeat swap call kmul lt sel mod addm subm mont pow name é 0 00 1 7 1048576 1048577 18446744073709551615 ( ) [ ] { } < > , ; : = + - *")

// P17.1: each word there is, behind all that a source may begin with, may stand there or not.
func TestEachWordBehindEachBeginning(t *testing.T) {
	words := strings.Fields(whole)
	like(t, whole)
	for n := range len(words) + 1 {
		begin := strings.Join(words[:n], " ") + " "
		like(t, begin)
		for _, w := range allWords {
			like(t, begin+w+" ")
			like(t, begin+w+" "+strings.Join(words[n:], " "))
			if n < len(words) {
				like(t, begin+w+" "+strings.Join(words[n+1:], " "))
			}
		}
	}
}

// P17.1: rows of words that begin nothing, or little
func TestShortRows(t *testing.T) {
	for _, a := range allWords {
		like(t, a)
		for _, b := range allWords {
			like(t, a+" "+b)
			like(t, "proc f ( ) { "+a+" "+b+" }")
			like(t, "proc f ( ) { r = "+a+" "+b+" ; }")
			like(t, "proc f ( out r [ "+a+" "+b+" ] ) { }")
			like(t, "proc f ( ) requires "+a+" "+b+" a { }")
		}
	}
}

// P17.1: sources by chance with words that are gone, come in, are changed, or have changed places
func TestSpoiltSources(t *testing.T) {
	m := &maker{Rand: rand.New(rand.NewSource(71))}
	for range 1500 {
		m.source(2)
		words := m.words
		for range 8 {
			l := slices.Clone(words)
			for range 1 + m.Intn(3) {
				at := m.Intn(len(l))
				switch m.Intn(5) {
				case 0:
					l = slices.Delete(l, at, at+1)
				case 1:
					l = slices.Insert(l, at, allWords[m.Intn(len(allWords))])
				case 2:
					l[at] = allWords[m.Intn(len(allWords))]
				case 3:
					other := m.Intn(len(l))
					l[at], l[other] = l[other], l[at]
				case 4:
					l = l[:at]
				}
				if len(l) == 0 {
					break
				}
			}
			m.words = l
			like(t, m.spread())
		}
	}
}

// P17.1: ErrMore, the length, if words are lacking
func TestMore(t *testing.T) {
	for _, s := range []string{
		"", " ", "\n\n", "# proc f(){}", "proc", "proc f", "proc f<", "proc f<a", "proc f<a,", "proc f<a>", "proc f(", "proc f(out", "proc f(out a", "proc f(out a[", "proc f(out a[k", "proc f(out a[k+", "proc f(out a[2*", "proc f(out a[2]", "proc f(out a[2],", "proc f()",
		"proc f()requires", "proc f()requires odd", "proc f()requires 0", "proc f()requires a<", "proc f()requires a<b", "proc f()requires a<b,", "proc f()ensures", "proc f()ensures odd a", "proc f(){",
		"proc f(){let", "proc f(){let x", "proc f(){let x[", "proc f(){let x[1]", "proc f(){let x[1]=", "proc f(){let x[1]=a", "proc f(){r", "proc f(){r=", "proc f(){r=a", "proc f(){r=a+", "proc f(){r=a+b", "proc f(){r=a;", "proc f(){r=mod", "proc f(){r=mod(", "proc f(){r=mod(a", "proc f(){r=mod(a,", "proc f(){r=mod(a)",
		"proc f(){repeat", "proc f(){repeat 2", "proc f(){repeat 2*", "proc f(){repeat 2{", "proc f(){repeat 2{}", "proc f(){swap", "proc f(){swap a", "proc f(){swap a b", "proc f(){swap a b c", "proc f(){call", "proc f(){call g", "proc f(){call g<", "proc f(){call g<1", "proc f(){call g<1>", "proc f(){call g(", "proc f(){call g(a", "proc f(){call g(a,", "proc f(){call g()",
		"proc f(){}proc", "proc f(){}proc g(){",
	} {
		for _, end := range []string{"", " ", "\n", " # }", "\t\r\n "} {
			refuses(t, s+end, len(s+end), api.ErrMore)
		}
	}
}

// P17.1: ErrText of a word that can not stand there: the ! stands ahead of it.
func TestText(t *testing.T) {
	for _, s := range []string{
		"!f", "!1", "!(", "!let", "proc !proc", "proc !1", "proc !(", "proc f!{", "proc f(){}!f", "proc f(){}!}", "proc f(){}!;",
		"proc f<!>(){}", "proc f<!,a>(){}", "proc f<a,!>(){}", "proc f<a!b>(){}", "proc f<!1>(){}", "proc f<!odd>(){}", "proc f<a>!<b>(){}",
		"proc f(!,){}", "proc f(!a[1]){}", "proc f(out !out[1]){}", "proc f(out a!){}", "proc f(out a[!]){}", "proc f(out a[1]!out b[1]){}", "proc f(out a[1],!){}", "proc f(!let a[1]){}", "proc f(out !1[1]){}", "proc f(out a!(1)){}", "proc f(out a!,b[1]){}",
		"proc f(out a[!-1]){}", "proc f(out a[1!-1]){}", "proc f(out a[k!*2]){}", "proc f(out a[k!*k]){}", "proc f(out a[2*!2]){}", "proc f(out a[2*k!*k]){}", "proc f(out a[2*!mod]){}", "proc f(out a[1+!]){}", "proc f(out a[!+1]){}", "proc f(out a[2!k]){}", "proc f(out a[!(1)]){}", "proc f(out a[1!,2]){}", "proc f(out a[2*!1048577]){}", "proc f(out a[1!1048577]){}",
		"proc f()requires !{}", "proc f()requires odd !0{}", "proc f()requires !1<a{}", "proc f()requires !01<a{}", "proc f()requires !18446744073709551615<a{}", "proc f()requires 0<!0{}", "proc f()requires a<!0{}", "proc f()requires a!{}", "proc f()requires 0!{}", "proc f()requires a!>b{}", "proc f()requires odd a!<b{}", "proc f()requires a<b!<c{}", "proc f()requires a<b,!{}", "proc f()requires a<b!odd c{}", "proc f()requires odd!{}",
		"proc f()ensures odd a!requires odd a{}", "proc f()requires odd a!requires odd a{}", "proc f()ensures odd a!ensures odd a{}", "proc f()requires !ensures odd a{}", "proc f()!odd a{}", "proc f(){}!requires odd a",
		"proc f(){!;}", "proc f(){!1=a;}", "proc f(){!odd=a;}", "proc f(){a!}", "proc f(){!{}}", "proc f(){!proc g(){}}", "proc f(){r!a;}", "proc f(){r!:=a;}", "proc f(){r=!;}", "proc f(){r=a!}", "proc f(){r=a!b;}", "proc f(){r=a+!;}", "proc f(){r=a+b!+c;}", "proc f(){r=!+a;}", "proc f(){r=!-1;}", "proc f(){r=a!<b;}", "proc f(){r=!(a);}", "proc f(){r=a!,b;}", "proc f(){r!+=a;}", "proc f(){r![1]=a;}",
		"proc f(){r=kmul!;}", "proc f(){r=kmul!a;}", "proc f(){r=kmul(!);}", "proc f(){r=kmul(a!b);}", "proc f(){r=kmul(a,!);}", "proc f(){r=kmul(a,b!;}", "proc f(){r=kmul(a,b)!+c;}", "proc f(){r=kmul(!mod(a,b),c);}", "proc f(){r=kmul(a!+b,c);}", "proc f(){r=a+!kmul(a,b);}", "proc f(){r=a!kmul(a,b);}", "proc f(){r=!odd(a);}", "proc f(){r=g!(a);}", "proc f(){r=!let;}", "proc f(){r=kmul(!lt);}", "proc f(){r=kmul![a];}",
		"proc f(){let !1[1]=a;}", "proc f(){let x!=a;}", "proc f(){let x[!]=a;}", "proc f(){let x[1]!;}", "proc f(){let x[1]!a;}", "proc f(){let x[1]=!;}", "proc f(){let !let[1]=a;}", "proc f(){let x[1]=a!}", "proc f(){let !public x[1]=a;}",
		"proc f(){repeat !{}}", "proc f(){repeat 2!;}", "proc f(){repeat 2!r=a;}", "proc f(){repeat !(2){}}", "proc f(){repeat k!*2{}}", "proc f(){repeat 2{}!;}", "proc f(){repeat 2{r=a!}}", "proc f(){repeat ![2]{}}",
		"proc f(){swap a!,b,c;}", "proc f(){swap a b!;}", "proc f(){swap a b c!d;}", "proc f(){swap a b !1;}", "proc f(){swap !(a b c);}", "proc f(){swap a b c!}", "proc f(){swap a !swap c;}",
		"proc f(){call !();}", "proc f(){call g!;}", "proc f(){call g<!>();}", "proc f(){call g(!1);}", "proc f(){call g(!,a);}", "proc f(){call g(a,!);}", "proc f(){call g(a!b);}", "proc f(){call g()!}", "proc f(){call g()!<1>;}", "proc f(){call g<1!;>();}", "proc f(){call g<1,!>();}", "proc f(){call g<1>!<2>();}", "proc f(){call g<k!-1>();}", "proc f(){call !mod(a,b);}", "proc f(){call g(a!+b);}", "proc f(){call g![1]();}",
	} {
		at := strings.Index(s, "!")
		refuses(t, s[:at]+" "+s[at+1:], at+1, api.ErrText)
		refuses(t, "\n# é\n"+s[:at]+"\n\t"+s[at+1:], at+len("\n# é\n\n\t"), api.ErrText)
	}
}

// P17.1: no reserved name stands where a name does; all that are near to them do.
func TestReservedNames(t *testing.T) {
	for _, s := range []string{
		"proc N(){}", "proc f<N>(){}", "proc f<a,N>(){}", "proc f(out N[1]){}", "proc f(out a[N]){}", "proc f(out a[2*N]){}", "proc f(out a[1+N]){}", "proc f()requires odd N{}", "proc f()requires N<a{}", "proc f()requires a<N{}", "proc f()ensures 0<N{}",
		"proc f(){N=1;}", "proc f(){let N[1]=1;}", "proc f(){r=N;}", "proc f(){r=N+1;}", "proc f(){r=1-N;}", "proc f(){r=mod(N,1);}", "proc f(){r=mod(1,N);}", "proc f(){repeat N{}}", "proc f(){swap N a b;}", "proc f(){swap a N b;}", "proc f(){swap a b N;}", "proc f(){call N();}", "proc f(){call g(N);}", "proc f(){call g<N>();}",
	} {
		for _, name := range names("proc requires ensures odd public secret out let repeat swap call kmul lt sel mod addm subm mont pow") {
			source := strings.Replace(s, "N", name, 1)
			if l, _, e := Read(source); len(l) != 0 || e != api.ErrText {
				t.Errorf("Read of %q: %+v, %d", source, l, e)
			}
			like(t, source)
			for _, near := range []string{name + "1", name + "_", "_" + name, name + "é", strings.ToUpper(name), name[1:], name + name} {
				if l := like(t, strings.Replace(s, "N", near, 1)); len(l) != 1 {
					t.Errorf("%q as a name", near)
				}
			}
		}
	}
}

// P17.1: a scan's error comes first, wherever it stands.
func TestScanFirst(t *testing.T) {
	refuses(t, "; 2a", 3, api.ErrText)
	refuses(t, "; \xff", 2, api.ErrBad)
	refuses(t, "; # \xff", 4, api.ErrBad)
	refuses(t, "; 18446744073709551616", 2, api.ErrLong)
	refuses(t, "proc f(out a[1048577]) { !", 25, api.ErrText)
	refuses(t, "proc f(){ \xc0\x80 ;", 10, api.ErrBad)
	reads(t, "proc f(){}"+strings.Repeat(" ", 1<<16-10), api.Proc{Name: "f"})
	refuses(t, "proc f(){}"+strings.Repeat(" ", 1<<16-9), 0, api.ErrLong)
	refuses(t, strings.Repeat(";", 1<<16+1), 0, api.ErrLong)
	refuses(t, strings.Repeat(";", 1<<16), 0, api.ErrText)
}

// P17.1: ErrLong of a number in a length above 2^20, at that number; of no other number
func TestLong(t *testing.T) {
	for _, s := range []string{
		"proc f(out a[!N]){}", "proc f(out a[!N*k]){}", "proc f(out a[k+!N]){}", "proc f(out a[1+2*k+!N*k]){}", "proc f(out a[!N*2]){}", "proc f(out a[!N", "proc f(out a[!N N]){}", "proc f(out a[1],secret b[!N]){}", "proc f(){let x[!N]=1;}", "proc f(){let x[1+!N*k]=;}", "proc f(){repeat !N{}}", "proc f(){repeat k+!N*k{}}", "proc f(){call g<!N>();}", "proc f(){call g<1,k+!N,;", "proc f(){call g<!N", "proc f(){}proc g(out a[1+!N]",
	} {
		at := strings.Index(s, "!")
		for _, n := range names("1048577 01048577 1048578 2097152 4294967296 4294967297 9223372036854775808 18446744073709551615") {
			refuses(t, strings.ReplaceAll(strings.Replace(s, "!", "", 1), "N", n), at, api.ErrLong)
		}
		for _, n := range names("0 1048575 1048576 0000000000000000000000001048576") {
			if _, _, e := Read(strings.ReplaceAll(strings.Replace(s, "!", "", 1), "N", n)); e == api.ErrLong {
				t.Errorf("%s in %q", n, s)
			}
		}
	}
	refuses(t, "proc f(){x = ; let y[1048577]=1;}", 13, api.ErrText)
	refuses(t, "proc f(out a[1048577], b){}", 13, api.ErrLong)
}

// P17.1: ErrFull of a procedure above 16: its proc
func TestProcedureLimit(t *testing.T) {
	one := "proc f(){} "
	for n := 1; n <= 16; n++ {
		if l, _, e := Read(strings.Repeat(one, n)); len(l) != n || e != api.OK {
			t.Error(n, len(l), e)
		}
	}
	all := strings.Repeat(one, 16)
	refuses(t, all+"proc", len(all), api.ErrFull)
	refuses(t, all+one, len(all), api.ErrFull)
	refuses(t, all+one+one, len(all), api.ErrFull)
	refuses(t, all+"proc 1", len(all), api.ErrFull)
	refuses(t, all+"f", len(all), api.ErrText)
	refuses(t, all+"procs", len(all), api.ErrText)
	refuses(t, all+"} proc", len(all), api.ErrText)
	refuses(t, all[:len(all)-2]+" proc", len(all)-1, api.ErrText)
	refuses(t, all[:len(all)-2], len(all)-2, api.ErrMore)
}

// P17.1: ErrFull where a 13th name in < >, param, length in < >, or name of a call would begin, whatever word stands there
func TestListLimits(t *testing.T) {
	for _, x := range []struct{ ahead, item, behind string }{
		{"proc f<", "a", ">(){}"},
		{"proc f(", "out a[1]", "){}"},
		{"proc f(", "secret a[2*k+1]", "){}"},
		{"proc f(){call g<", "2*k+1", ">();}"},
		{"proc f(){call g(", "a", ");}"},
		{"proc f(){call g<1>(", "a", ");}"},
	} {
		list := func(n int) string { return x.ahead + strings.Repeat(x.item+",", n-1) + x.item }
		for n := 1; n <= 12; n++ {
			if l := like(t, list(n)+x.behind); len(l) != 1 {
				t.Error(n, x)
			}
		}
		full := list(12) + ","
		for _, w := range allWords {
			refuses(t, full+w, len(full), api.ErrFull)
			refuses(t, full+" "+w+" , ;", len(full)+1, api.ErrFull)
		}
		refuses(t, list(13)+x.behind, len(full), api.ErrFull)
		refuses(t, list(40)+x.behind, len(full), api.ErrFull)
		refuses(t, full, len(full), api.ErrMore)
		refuses(t, full+" # x", len(full)+4, api.ErrMore)
		refuses(t, list(12)+" ;", len(list(12))+1, api.ErrText)
		refuses(t, list(11)+",;", len(list(11))+1, api.ErrText)
	}
}

// P17.1: lists that have no limit
func TestEndlessLists(t *testing.T) {
	for _, n := range []int{12, 13, 14, 17, 100, 4000} {
		clauses := strings.Repeat("odd a,", n-1) + "0<b"
		l, _, e := Read("proc f()requires " + clauses + " ensures " + clauses + "{}")
		if e != api.OK || len(l[0].Requires) != n || len(l[0].Ensures) != n {
			t.Error(n, e)
		}
		l, _, e = Read("proc f(){r=pow(" + strings.Repeat("a,", n-1) + "1);}")
		if e != api.OK || len(l[0].Body[0].Expr.Args) != n {
			t.Error(n, e)
		}
		l, _, e = Read("proc f(){" + strings.Repeat("r=a;", n) + "repeat " + strings.Repeat("1+", n-1) + "k{}}")
		if e != api.OK || len(l[0].Body) != n+1 || Count(l) != n+1 || l[0].Body[n].Len.Const != n-1 {
			t.Error(n, e)
		}
		var sum []string
		for i := range n {
			sum = append(sum, fmt.Sprint("k", 5000-i))
		}
		l, _, e = Read("proc f(out r[" + strings.Join(sum, "+") + "]){}")
		if e != api.OK || len(l[0].Params[0].Len.Terms) != n || l[0].Params[0].Len.Terms[0].Name != sum[n-1] {
			t.Error(n, e)
		}
	}
	l, at, e := Read("proc f(){r=mod(" + strings.Repeat("1,", (1<<16-20)/2) + "1);}")
	if e != api.OK || len(l[0].Body[0].Expr.Args) != (1<<16-20)/2+1 {
		t.Error(at, e)
	}
}

// P17.1: ErrFull of a repeat in four others, at its repeat; it counts what it stands in alone.
func TestNestLimit(t *testing.T) {
	nested := func(n int, inner string) string {
		return strings.Repeat("repeat 2{", n) + inner + strings.Repeat("}", n)
	}
	for n := range 5 {
		if l := like(t, "proc f(){"+nested(n, "r=a;")+"}"); len(l) != 1 || Count(l) != n+1 {
			t.Error(n)
		}
	}
	at := len("proc f(){") + 4*len("repeat 2{")
	refuses(t, "proc f(){"+nested(5, "")+"}", at, api.ErrFull)
	refuses(t, "proc f(){"+nested(4, "repeat"), at, api.ErrFull)
	refuses(t, "proc f(){"+nested(4, "repeat 1048577{"), at, api.ErrFull)
	refuses(t, "proc f(){"+nested(4, "repeats"), at+len("repeats"), api.ErrText)
	refuses(t, "proc f(){"+nested(4, "r=a; repeat 1{}")+"}", at+5, api.ErrFull)
	refuses(t, "proc f(){"+nested(9, "")+"}", at, api.ErrFull)
	for _, s := range []string{nested(4, "") + nested(4, ""), nested(3, nested(1, "")+nested(1, "r=a;")), nested(2, nested(2, "")+"r=a;"+nested(2, "")) + nested(4, "")} {
		if l := like(t, "proc f(){"+s+"}proc g(){"+s+"}"); len(l) != 2 {
			t.Error(s)
		}
	}
	s := "proc f(){" + nested(4, "") + nested(3, nested(1, "")+nested(1, ""))
	refuses(t, s+nested(4, "repeat 1{}")+"}", len(s)+4*len("repeat 2{"), api.ErrFull)
}
