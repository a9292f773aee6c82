package alloc

import (
	"math"
	"slices"
	"testing"

	"keysmith/api"
	"keysmith/limb"
)

// Operations by hand: op has nothing but its kind.

func op(kind int) api.LimbOp {
	return api.LimbOp{Kind: kind, D: -1, E: -1, A: -1, B: -1, C: -1}
}

func constant(d int) api.LimbOp {
	return api.LimbOp{Kind: api.LimbConst, D: d, E: -1, A: -1, B: -1, C: -1, Imm: 7}
}

func move(d, a int) api.LimbOp {
	return api.LimbOp{Kind: api.LimbMove, D: d, E: -1, A: a, B: -1, C: -1}
}

func add(d, a, b int) api.LimbOp {
	return api.LimbOp{Kind: api.LimbAdd, D: d, E: -1, A: a, B: b, C: -1}
}

// store takes a register, and makes none.
func store(b int) api.LimbOp {
	return api.LimbOp{Kind: api.LimbStore, D: -1, E: -1, A: -1, B: b, C: -1, Buf: out}
}

func loop(d int) api.LimbOp {
	return times(d, 3)
}

func times(d int, n uint64) api.LimbOp {
	return api.LimbOp{Kind: api.LimbLoop, D: d, E: -1, A: -1, B: -1, C: -1, Imm: n}
}

var end = op(api.LimbEnd)

// row puts operations behind one another.
func row(l ...api.LimbOp) []api.LimbOp { return l }

// out is the buffer of program that store stores into.
const out = 1

// program answers a program over 9 registers and a buffer of each kind.
func program(l ...api.LimbOp) api.LimbProg {
	return api.LimbProg{Regs: 9, Ops: l, Bufs: []api.Buf{
		{Size: 3, Kind: api.BufIn, Secret: true}, {Size: 3, Kind: api.BufOut, Secret: true}, {Size: 3, Kind: api.BufTmp},
	}}
}

var no = [2]int{-1, -1}

// spans holds the spans of a program's first registers; the others have none.
func spans(t *testing.T, p api.LimbProg, want ...[2]int) {
	t.Helper()
	if _, e := limb.Check(p); e != api.OK {
		t.Fatalf("%+v may not be: %d", p, e)
	}
	for len(want) < p.Regs {
		want = append(want, no)
	}
	before := limb.Copy(p)
	if l := Live(p); !slices.Equal(l, want) {
		t.Fatalf("Live of %+v: %v, not %v", p.Ops, l, want)
	}
	if l := modelLive(p); !slices.Equal(l, want) {
		t.Fatalf("the model tells %v of %+v", l, p.Ops)
	}
	if !limb.Same(p, before) {
		t.Fatalf("%+v is changed, it was %+v", p, before)
	}
}

// checks holds what Check tells.
func checks(t *testing.T, p api.LimbProg, pool int, places []int, want api.Errno) {
	t.Helper()
	before, was := limb.Copy(p), slices.Clone(places)
	if e := Check(p, pool, places); e != want {
		t.Fatalf("Check of %+v, %d, %v: %d, not %d", p.Ops, pool, places, e, want)
	}
	if !limb.Same(p, before) || !slices.Equal(places, was) {
		t.Fatalf("what Check was handed is changed: %+v, %v", p, places)
	}
}

// builds holds what Build tells of a program that may be, and answers it.
func builds(t *testing.T, p api.LimbProg, pool int) []int {
	t.Helper()
	before := limb.Copy(p)
	l, e := Build(p, pool)
	if e != api.OK || len(l) != p.Regs {
		t.Fatalf("Build of %+v, %d: %v, %d", p.Ops, pool, l, e)
	}
	checks(t, p, pool, l, api.OK)
	if e := modelCheck(p, pool, l); e != api.OK {
		t.Fatalf("Build of %+v, %d: %v: the model says %d", p.Ops, pool, l, e)
	}
	if !limb.Same(p, before) {
		t.Fatalf("%+v is changed, it was %+v", p, before)
	}
	return l
}

// mayNot holds that nothing is told of a program that may not be.
func mayNot(t *testing.T, p api.LimbProg) {
	t.Helper()
	_, want := limb.Check(p)
	if want == api.OK {
		t.Fatalf("%+v may be", p)
	}
	if l := Live(p); len(l) != 0 {
		t.Fatalf("Live of %+v: %v", p, l)
	}
	for _, pool := range []int{0, 9, 16, -1, 17} {
		if l, e := Build(p, pool); len(l) != 0 || e != want {
			t.Fatalf("Build of %+v: %v, %d, not %d", p, l, e, want)
		}
		for _, places := range [][]int{nil, make([]int, 9), {0, 1, 2, 3, 4, 5, 6, 7, 8}, slices.Repeat([]int{math.MinInt}, 9)} {
			checks(t, p, pool, places, want)
		}
	}
}

// The document's example
func TestExample(t *testing.T) {
	p := program(constant(0), loop(1), add(0, 0, 1), end)
	spans(t, p, [2]int{0, 3}, [2]int{1, 3})
	for pool := range 17 {
		builds(t, p, pool)
	}
}

// P14.1, P14.2: a program without anything, and ones without operations
func TestNothing(t *testing.T) {
	for _, p := range []api.LimbProg{{}, {Bufs: []api.Buf{}, Ops: []api.LimbOp{}}, {Regs: 1}, {Regs: 64}, program()} {
		spans(t, p)
		for pool := range 17 {
			if l := builds(t, p, pool); Slots(l) != 0 {
				t.Errorf("%d slots for nothing: %v", Slots(l), l)
			}
		}
		checks(t, p, 3, slices.Repeat([]int{math.MinInt}, p.Regs), api.OK)
		checks(t, p, 3, slices.Repeat([]int{math.MaxInt}, p.Regs), api.OK)
		checks(t, p, 3, make([]int, p.Regs+1), api.ErrArg)
	}
	checks(t, api.LimbProg{}, 0, nil, api.OK)
	checks(t, api.LimbProg{}, 0, []int{}, api.OK)
	checks(t, api.LimbProg{Regs: 1}, 0, nil, api.ErrArg)
}

// filled answers an operation of a kind with registers of program (D 4, E 5; A 1, B 2, C 3), and what else it must have.
func filled(kind int) api.LimbOp {
	o := op(kind)
	for _, letter := range shapes[kind] {
		switch letter {
		case 'D':
			o.D = 4
		case 'E':
			o.E = 5
		case 'A', 'a':
			o.A = 1
		case 'B':
			o.B = 2
		case 'C':
			o.C = 3
		case 'P':
			o.Buf = out
		case 's':
			o.Imm = 9
		case 't':
			o.Imm = 2
		}
	}
	return o
}

// P14.1: of each kind: it is the last that takes each thing that it takes, the first that makes each thing that it makes, and the last that makes it, if it was made ahead
func TestEachKind(t *testing.T) {
	ahead := row(constant(1), constant(2), constant(3))
	for kind := range shapes {
		if kind == api.LimbEnd || kind == api.LimbLoop {
			continue
		}
		o := filled(kind)
		want := [][2]int{no, {0, 0}, {1, 1}, {2, 2}, no, no}
		for _, r := range registers(o, "AaBC") {
			want[r][1] = 3
		}
		for _, r := range registers(o, "DE") {
			want[r] = [2]int{3, 3}
		}
		spans(t, program(append(slices.Clone(ahead), o, constant(6))...), append(want, [2]int{4, 4})...)
		again := program(append(slices.Clone(ahead), o, o)...)
		for _, r := range registers(o, "DEAaBC") {
			want[r][1] = 4
		}
		spans(t, again, want...)
	}
}

// P14.1: each register of a program is told in its row, the first and the last one, too
func TestEachRegister(t *testing.T) {
	for r := range 64 {
		p := program(constant(r), constant(r), store(r), constant((r+1)%64))
		p.Regs = 64
		want := slices.Repeat([][2]int{no}, 64)
		want[r], want[(r+1)%64] = [2]int{0, 2}, [2]int{3, 3}
		spans(t, p, want...)
		if builds(t, p, 1)[r] != 0 {
			t.Error(r)
		}
	}
}

// P14.1: what is made and not taken, made again without being taken, taken by what makes it
func TestMadeAlone(t *testing.T) {
	spans(t, program(constant(0)), [2]int{0, 0})
	spans(t, program(constant(0), constant(1), constant(0)), [2]int{0, 2}, [2]int{1, 1})
	spans(t, program(constant(0), add(0, 0, 0), constant(1), add(0, 1, 1)), [2]int{0, 3}, [2]int{2, 3})
}

// P14.1: a loop's D is taken by its end
func TestLoopsRegister(t *testing.T) {
	spans(t, program(loop(0), end), [2]int{0, 1})
	spans(t, program(loop(0), constant(1), constant(2), end, constant(3)), [2]int{0, 3}, [2]int{1, 1}, [2]int{2, 2}, [2]int{4, 4})
	spans(t, program(loop(0), loop(1), loop(2), end, end, end), [2]int{0, 5}, [2]int{1, 4}, [2]int{2, 3})
	// Behind its end it may be made again, by a loop or something else.
	spans(t, program(loop(0), end, constant(0), store(0)), [2]int{0, 3})
	spans(t, program(loop(0), end, constant(1), loop(0), constant(2), end), [2]int{0, 5}, [2]int{2, 2}, [2]int{4, 4})
	spans(t, program(loop(1), loop(0), end, loop(0), end, end), [2]int{1, 4}, [2]int{0, 5})
}

// P14.1: what begins ahead of a loop and ends in it goes up to its end
func TestThroughLoops(t *testing.T) {
	// Taken, or made, or both.
	spans(t, program(constant(0), loop(1), store(0), constant(2), end), [2]int{0, 4}, [2]int{1, 4}, [2]int{3, 3})
	spans(t, program(constant(0), loop(1), constant(0), constant(2), end), [2]int{0, 4}, [2]int{1, 4}, [2]int{3, 3})
	spans(t, program(constant(0), loop(1), constant(2), add(0, 0, 2), end), [2]int{0, 4}, [2]int{1, 4}, [2]int{2, 3})
	// Taken behind the loop, or made in it and taken behind.
	spans(t, program(constant(0), loop(1), end, store(0)), [2]int{0, 3}, [2]int{1, 2})
	spans(t, program(loop(1), constant(0), end, store(0)), [2]int{1, 3}, [2]int{0, 2})
	// Ended ahead of the loop.
	spans(t, program(constant(0), store(0), loop(1), end), [2]int{0, 1}, [2]int{2, 3})
	// Begun in it, at the first place or later.
	spans(t, program(loop(1), constant(0), store(0), constant(2), end), [2]int{1, 2}, [2]int{0, 4}, [2]int{3, 3})
	// A loop's own register, which was made and given up ahead of another one.
	spans(t, program(loop(0), end, loop(1), loop(0), end, constant(2), end), [2]int{0, 6}, [2]int{2, 6}, [2]int{5, 5})
}

// P14.1: loops in one another: a span goes up to the end of the outermost loop that it begins ahead of
func TestThroughNests(t *testing.T) {
	spans(t, program(constant(0), loop(1), loop(2), store(0), end, constant(3), end), [2]int{0, 6}, [2]int{1, 6}, [2]int{2, 4}, [2]int{5, 5})
	spans(t, program(loop(1), constant(0), loop(2), store(0), end, constant(3), end), [2]int{1, 4}, [2]int{0, 6}, [2]int{2, 4}, [2]int{5, 5})
	spans(t, program(loop(1), loop(2), constant(0), store(0), end, constant(3), end), [2]int{2, 3}, [2]int{0, 6}, [2]int{1, 4}, [2]int{5, 5})
	// Ended between the loops' ends, or in a second loop, or between two.
	spans(t, program(constant(0), loop(1), loop(2), end, store(0), end), [2]int{0, 5}, [2]int{1, 5}, [2]int{2, 3})
	spans(t, program(loop(1), constant(0), loop(2), end, loop(3), store(0), end, end), [2]int{1, 6}, [2]int{0, 7}, [2]int{2, 3}, [2]int{4, 6})
	spans(t, program(loop(1), constant(0), loop(2), end, store(0), loop(3), end, end), [2]int{1, 4}, [2]int{0, 7}, [2]int{2, 3}, [2]int{5, 6})
	// Made in one loop, taken in the next one.
	spans(t, program(loop(1), constant(0), end, loop(1), store(0), constant(2), end, constant(3)), [2]int{1, 6}, [2]int{0, 6}, [2]int{5, 5}, [2]int{7, 7})
}

// deep answers loops in one another, from register 1 on, with something in the innermost.
func deep(n int, l ...api.LimbOp) []api.LimbOp {
	ahead := row(constant(0))
	for r := range n {
		ahead = append(ahead, loop(r+1))
	}
	return slices.Concat(ahead, l, slices.Repeat(row(end), n))
}

// P14.1: as deep as loops may be
func TestThroughDeepest(t *testing.T) {
	want := [][2]int{{0, 17}}
	for r := range 8 {
		want = append(want, [2]int{1 + r, 17 - r})
	}
	spans(t, program(deep(8, store(0))...), want...)
	mayNot(t, api.LimbProg{Regs: 10, Ops: deep(9), Bufs: program().Bufs})
}

// P14.1: pools, and how many places there are
func TestCheckOfPools(t *testing.T) {
	p := program(constant(0))
	for _, pool := range []int{-1, 17, 64, math.MinInt, math.MaxInt} {
		checks(t, p, pool, slices.Repeat([]int{-1}, 9), api.ErrArg)
		if l, e := Build(p, pool); len(l) != 0 || e != api.ErrArg {
			t.Errorf("Build with pool %d: %v, %d", pool, l, e)
		}
	}
	for pool := range 17 {
		for n := range 12 {
			want := api.ErrArg
			if n == 9 {
				want = api.OK
			}
			checks(t, p, pool, slices.Repeat([]int{-1}, n), want)
		}
	}
	checks(t, p, 3, nil, api.ErrArg)
}

// P14.1: which places there are, for registers that have spans
func TestCheckOfPlaces(t *testing.T) {
	p := program(constant(0), constant(8))
	for pool := range 17 {
		for _, place := range []int{-64, -63, -1, 0, pool - 1, pool, pool + 1, -65, -66, 15, 16, 17, math.MinInt, math.MaxInt, math.MinInt32} {
			want := api.ErrArg
			if place >= -64 && place < pool {
				want = api.OK
			}
			checks(t, p, pool, []int{place, 0, 0, 0, 0, 0, 0, 0, -2}, want)
			checks(t, p, pool, []int{-2, 0, 0, 0, 0, 0, 0, 0, place}, want)
			checks(t, p, pool, []int{-2, place, place, 0, 0, 0, 0, place, -2}, api.OK)
		}
	}
}

// P14.1: two in one place: not at one operation, be it the last of one and the first of the other
func TestCheckOfMeeting(t *testing.T) {
	apart := program(constant(0), store(0), constant(1), store(1))
	touching := program(constant(0), move(1, 0), store(1))
	within := program(constant(0), constant(1), store(0))
	around := program(constant(1), loop(2), store(1), constant(0), end)
	behind := program(constant(1), loop(2), store(1), end, constant(0))
	for _, c := range []struct {
		p    api.LimbProg
		want api.Errno
	}{{apart, api.OK}, {touching, api.ErrThere}, {within, api.ErrThere}, {around, api.ErrThere}, {behind, api.OK}} {
		for _, place := range []int{-64, -1, 0, 4} {
			checks(t, c.p, 5, []int{place, place, 3, place, place, place, place, place, place}, c.want)
			checks(t, c.p, 5, []int{place, 1, 3, place, place, place, place, place, place}, api.OK)
		}
	}
	// Which two they are does not matter, nor how many.
	all := program(constant(0), constant(1), constant(2), constant(3), add(4, 0, 1), add(5, 2, 3))
	for a := range 6 {
		for b := range 6 {
			l := []int{0, 1, 2, 3, -1, -2, 0, 0, 0}
			l[a] = l[b]
			checks(t, all, 4, l, modelCheck(all, 4, l))
		}
	}
	checks(t, all, 4, make([]int, 9), api.ErrThere)
}

// P14.1: a place that there is not comes ahead of two in one place
func TestCheckOrder(t *testing.T) {
	p := program(constant(0), constant(1), constant(2), add(0, 1, 2))
	checks(t, p, 2, []int{1, 1, 0, 0, 0, 0, 0, 0, 0}, api.ErrThere)
	checks(t, p, 2, []int{1, 1, 2, 0, 0, 0, 0, 0, 0}, api.ErrArg)
	checks(t, p, 2, []int{2, 2, 2, 0, 0, 0, 0, 0, 0}, api.ErrArg)
	checks(t, p, 2, []int{1, 1, 1}, api.ErrArg)
	checks(t, p, 17, make([]int, 9), api.ErrArg)
}

// P14.1: limb.Check's errors come first
func TestErrorsOfLimb(t *testing.T) {
	for _, o := range row(
		api.LimbOp{}, op(0), op(18), op(-1), op(math.MinInt), op(math.MaxInt), end, loop(0), loop(9), times(1, 0), times(1, 1<<20+1), loop(1),
		move(1, 2), move(0, 9), move(-1, 0), move(math.MaxInt, 0), move(0, math.MinInt), store(1), store(-1), store(64),
	) {
		mayNot(t, program(constant(0), o))
		mayNot(t, program(o, constant(0)))
	}
	for _, change := range []func(p *api.LimbProg){
		func(p *api.LimbProg) { p.Regs = 65 },
		func(p *api.LimbProg) { p.Regs = -1 },
		func(p *api.LimbProg) { p.Regs = math.MaxInt },
		func(p *api.LimbProg) { p.Regs = math.MinInt },
		func(p *api.LimbProg) { p.Bufs = slices.Repeat(p.Bufs, 11) },
		func(p *api.LimbProg) { p.Bufs[0].Size = 0 },
		func(p *api.LimbProg) { p.Bufs[0].Size = 1<<16 + 1 },
		func(p *api.LimbProg) { p.Bufs[2].Kind = 4 },
		func(p *api.LimbProg) { p.Ops = slices.Repeat(p.Ops, 1<<16) },
	} {
		p := program(constant(0), store(0))
		change(&p)
		mayNot(t, p)
	}
}

// P14.1: of a program with secrets that are told, too: what is seen of it is not looked at
func TestWithSecrets(t *testing.T) {
	load := api.LimbOp{Kind: api.LimbLoad, D: 0, E: -1, A: -1, B: -1, C: -1}
	at := api.LimbOp{Kind: api.LimbLoad, D: 1, E: -1, A: 0, B: -1, C: -1}
	p := program(load, at)
	spans(t, p, [2]int{0, 1}, [2]int{1, 1})
	builds(t, p, 1)
}

// P14.1: Slots
func TestSlots(t *testing.T) {
	for _, c := range []struct {
		places []int
		want   int
	}{
		{nil, 0}, {[]int{}, 0}, {[]int{0}, 0}, {[]int{3, 15, math.MaxInt}, 0},
		{[]int{-1}, 1}, {[]int{3, -2, 0}, 2}, {[]int{-2, -1}, 2}, {[]int{-1, -2}, 2}, {[]int{-5, -5, 1, -5}, 5}, {[]int{-63}, 63}, {[]int{0, -64}, 64},
		{[]int{-65}, 0}, {[]int{-3, -100, math.MinInt}, 3}, {[]int{math.MinInt, math.MinInt + 1}, 0},
	} {
		before := slices.Clone(c.places)
		if n := Slots(c.places); n != c.want || !slices.Equal(c.places, before) {
			t.Errorf("Slots of %v: %d, not %d", before, n, c.want)
		}
	}
	for n := range 65 {
		if got := Slots(slices.Repeat([]int{-n}, 100)); got != n {
			t.Errorf("Slots of -%d: %d", n, got)
		}
	}
}
