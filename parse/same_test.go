package parse

import (
	"math/rand"
	"reflect"
	"slices"
	"strings"
	"testing"

	"keysmith/api"
)

func read(t *testing.T, s string) []api.Proc {
	t.Helper()
	l, _, e := Read(s)
	if e != api.OK {
		t.Fatalf("Read of %q: %d", s, e)
	}
	return l
}

// eachPart calls do with each number, text and list in a value, one after the other.
func eachPart(v reflect.Value, do func(reflect.Value)) {
	switch v.Kind() {
	case reflect.Slice:
		do(v)
		for i := range v.Len() {
			eachPart(v.Index(i), do)
		}
	case reflect.Struct:
		for i := range v.NumField() {
			eachPart(v.Field(i), do)
		}
	default:
		do(v)
	}
}

// change makes a number, a text or how long a list is another one (way 1: but for what is empty already).
func change(v reflect.Value, way int) {
	switch v.Kind() {
	case reflect.Int:
		v.SetInt(v.Int() + int64(1-2*way))
	case reflect.Uint64:
		v.SetUint(v.Uint() + uint64(1-2*way))
	case reflect.String:
		v.SetString([]string{v.String() + "x", ""}[way])
	case reflect.Slice:
		if way == 0 {
			v.Set(reflect.Append(v, reflect.Zero(v.Type().Elem())))
		} else if v.Len() > 0 {
			v.Set(v.Slice(0, v.Len()-1))
		}
	}
}

// P17.2: Same of what is the same, and of what has one part that is not
func TestSame(t *testing.T) {
	parts := 0
	eachPart(reflect.ValueOf(read(t, whole)), func(reflect.Value) { parts++ })
	if parts < 250 {
		t.Fatal(parts)
	}
	for part := -1; part < parts; part++ {
		for way := range 2 {
			a, b := read(t, whole), read(t, whole)
			if !Same(a, b) {
				t.Fatal(part)
			}
			n := 0
			holder := reflect.New(reflect.TypeOf(b))
			holder.Elem().Set(reflect.ValueOf(b))
			eachPart(holder.Elem(), func(v reflect.Value) {
				if n == part {
					change(v, way)
				}
				n++
			})
			b = holder.Elem().Interface().([]api.Proc)
			if same := sameButEmpty(a, b); Same(a, b) != same || Same(b, a) != same || same && way == 0 && part >= 0 {
				t.Fatalf("part %d of %+v: %v", part, b, same)
			}
			if !Same(b, b) {
				t.Fatal(part)
			}
		}
	}
}

// sameButEmpty tells whether all is the same, where empty lists are as good as nil.
func sameButEmpty(a, b []api.Proc) bool {
	if len(a) == 0 && len(b) == 0 {
		return true
	}
	return reflect.DeepEqual(full(a), full(b))
}

// full answers a copy without empty lists that are not nil.
func full(l []api.Proc) []api.Proc {
	out := slices.Clone(l)
	for i := range out {
		p := &out[i]
		p.Lens, p.Requires, p.Ensures = orNil(p.Lens), orNil(p.Requires), orNil(p.Ensures)
		p.Params = orNil(p.Params)
		for j := range p.Params {
			p.Params[j].Len.Terms = orNil(p.Params[j].Len.Terms)
		}
		p.Body = fullBody(p.Body)
	}
	return out
}

func orNil[T any](l []T) []T {
	if len(l) == 0 {
		return nil
	}
	return slices.Clone(l)
}

func fullBody(l []api.Stmt) []api.Stmt {
	out := orNil(l)
	for i := range out {
		s := &out[i]
		s.Len.Terms, s.Expr.Args, s.Names, s.Lens = orNil(s.Len.Terms), orNil(s.Expr.Args), orNil(s.Names), orNil(s.Lens)
		for j := range s.Lens {
			s.Lens[j].Terms = orNil(s.Lens[j].Terms)
		}
		s.Body = fullBody(s.Body)
	}
	return out
}

// P17.2: a nil list and an empty one are the same; where a thing stands counts.
func TestSameByHand(t *testing.T) {
	one := func(s ...api.Stmt) []api.Proc { return []api.Proc{{Name: "f", Body: s}} }
	empty := api.Proc{Name: "f", Lens: []string{}, Params: []api.Param{}, Requires: []api.Clause{}, Ensures: []api.Clause{}, Body: []api.Stmt{}}
	set := api.Stmt{Kind: api.StmtSet, Name: "r", Expr: api.Expr{Args: []api.Arg{{Name: "a"}}}}
	setEmpty := set
	setEmpty.Len.Terms, setEmpty.Names, setEmpty.Lens, setEmpty.Body = []api.Term{}, []string{}, []api.Len{}, []api.Stmt{}
	repeat := func(s ...api.Stmt) api.Stmt { return api.Stmt{Kind: api.StmtRepeat, Body: s} }
	for _, x := range []struct {
		a, b []api.Proc
		same bool
	}{
		{nil, nil, true},
		{nil, []api.Proc{}, true},
		{nil, []api.Proc{{}}, false},
		{[]api.Proc{{}}, []api.Proc{{}, {}}, false},
		{[]api.Proc{empty}, []api.Proc{{Name: "f"}}, true},
		{one(set), one(setEmpty), true},
		{one(set, set), one(set), false},
		{one(repeat(set)), one(set), false},
		{one(repeat(set), set), one(repeat(set, set)), false},
		{one(repeat(repeat(set))), one(repeat(repeat(), set)), false},
		{one(repeat(repeat(set))), one(repeat(repeat(), repeat(set))), false},
		{one(repeat(repeat(set))), one(repeat(), repeat(repeat(set))), false},
		{one(repeat(repeat(set)), repeat()), one(repeat(), repeat(repeat(set))), false},
		{one(repeat(set), repeat()), one(repeat(), repeat(set)), false},
		{one(repeat(set), repeat(setEmpty)), one(repeat(setEmpty), repeat(set)), true},
		{one(api.Stmt{Kind: 9, Body: []api.Stmt{set}}), one(api.Stmt{Kind: 9}), false},
		{one(api.Stmt{Kind: api.StmtSet, Lens: []api.Len{{}}}), one(api.Stmt{Kind: api.StmtSet}), false},
		{one(api.Stmt{Expr: api.Expr{Args: []api.Arg{{Name: "a", Num: 1}}}}), one(api.Stmt{Expr: api.Expr{Args: []api.Arg{{Name: "a"}}}}), false},
		{one(api.Stmt{Len: length(0, api.Term{Name: "a", Times: 1}, api.Term{Name: "b", Times: 1})}), one(api.Stmt{Len: length(0, api.Term{Name: "b", Times: 1}, api.Term{Name: "a", Times: 1})}), false},
		{one(api.Stmt{Len: length(0, api.Term{Name: "a", Times: 0})}), one(api.Stmt{}), false},
		{[]api.Proc{{Lens: names("a b")}}, []api.Proc{{Lens: names("b a")}}, false},
		{[]api.Proc{{Name: "f"}, {Name: "g"}}, []api.Proc{{Name: "g"}, {Name: "f"}}, false},
		{[]api.Proc{{Requires: []api.Clause{{Kind: 1}}}}, []api.Proc{{Ensures: []api.Clause{{Kind: 1}}}}, false},
	} {
		if Same(x.a, x.b) != x.same || Same(x.b, x.a) != x.same {
			t.Errorf("%+v and %+v", x.a, x.b)
		}
	}
}

// P17.2: statements are counted wherever they stand, of whatever kind.
func TestCount(t *testing.T) {
	for s, want := range map[string]int{
		"proc f(){}":           0,
		"proc f(){}proc g(){}": 0,
		"proc f(){r=a;}":       1,
		"proc f(){r=a;}proc g(){r=a;swap a b c;}":                              3,
		"proc f(){repeat 9{}}":                                                 1,
		"proc f(){repeat 9{repeat 2{r=a;call g();}let x[1]=a;}}proc g(){r=a;}": 6,
	} {
		if n := Count(read(t, s)); n != want {
			t.Errorf("%q: %d, not %d", s, n, want)
		}
	}
	if Count(nil) != 0 || Count([]api.Proc{}) != 0 || Count(make([]api.Proc, 5)) != 0 {
		t.Error("statements of none")
	}
	l := []api.Stmt{{Kind: 77}, {}, {Kind: api.StmtSwap, Body: make([]api.Stmt, 3)}, {Body: []api.Stmt{{Body: make([]api.Stmt, 2)}, {}}}}
	if n := Count([]api.Proc{{}, {Body: l}, {Body: l[:1]}}); n != 4+3+2+2+1 {
		t.Error(n)
	}
}

// T6: bodies that stand in one another deeper than calls can go
func TestDeepBodies(t *testing.T) {
	const deep = 1 << 20
	nested := func(last string) []api.Proc {
		body := []api.Stmt{{Kind: api.StmtSet, Name: last, Expr: api.Expr{Args: []api.Arg{{Num: 1}}}}}
		for range deep {
			body = []api.Stmt{{Kind: api.StmtRepeat, Body: body}}
		}
		return []api.Proc{{Name: "f", Body: body}}
	}
	a := nested("a")
	if n := Count(a); n != deep+1 {
		t.Error(n)
	}
	if s := Text(a); s != "proc f ( ) { "+strings.Repeat("repeat 0 { ", deep)+"a = 1 ; "+strings.Repeat("} ", deep)+"}" {
		t.Error(len(s))
	}
	if !Same(a, nested("a")) || Same(a, nested("b")) {
		t.Error("not the same")
	}
}

// reaches answers where the memory of each list in a value begins and ends, its spare room, too.
func reaches(v reflect.Value) [][2]uintptr {
	var l [][2]uintptr
	eachPart(v, func(v reflect.Value) {
		if v.Kind() == reflect.Slice && v.Cap() > 0 {
			l = append(l, [2]uintptr{v.Pointer(), v.Pointer() + uintptr(v.Cap())*v.Type().Elem().Size()})
		}
	})
	return l
}

// Rule 3: no two lists of answers share memory, nor spare room, and what lies there is nothing.
func TestListsAreApart(t *testing.T) {
	a, b := read(t, whole), read(t, whole)
	l := append(reaches(reflect.ValueOf(a)), reaches(reflect.ValueOf(b))...)
	slices.SortFunc(l, func(x, y [2]uintptr) int { return int(x[0]) - int(y[0]) })
	for i := 1; i < len(l); i++ {
		if l[i][0] < l[i-1][1] {
			t.Error(l[i-1], l[i])
		}
	}
	if len(l) < 60 {
		t.Error(len(l))
	}
	eachPart(reflect.ValueOf(a), func(v reflect.Value) {
		if v.Kind() != reflect.Slice {
			return
		}
		for i := v.Len(); i < v.Cap(); i++ {
			if !v.Slice(0, v.Cap()).Index(i).IsZero() {
				t.Error("something in spare room")
			}
		}
	})
}

// Rule 3: what is handed in stays as it is, its spare room, too.
func TestNothingIsChanged(t *testing.T) {
	m := &maker{Rand: rand.New(rand.NewSource(19))}
	for range 100 {
		l := m.source(3)
		words := m.words
		spare := append(slices.Clone(l), m.procedure(), m.procedure())
		want := append(full(l), full(spare[len(l):])...)
		short := spare[:len(l)]
		Text(short)
		Count(short)
		Same(short, l)
		for _, p := range short {
			for _, q := range p.Params {
				Length(q.Len)
			}
		}
		if !reflect.DeepEqual(full(spare), want) || !Same(short, l) {
			t.Fatalf("%q", words)
		}
	}
}

// T6: the same is answered again, whatever was asked ahead.
func TestAgain(t *testing.T) {
	m := &maker{Rand: rand.New(rand.NewSource(20))}
	for range 50 {
		m.source(2)
		s := m.spread()
		a := read(t, s)
		Read(s[:len(s)/2])
		Read("proc f(out a[1048577")
		Read(strings.Repeat("repeat 2{", 9))
		if b := read(t, s); !reflect.DeepEqual(a, b) || Text(a) != Text(b) {
			t.Fatalf("%q", s)
		}
	}
}
