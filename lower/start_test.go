package lower

import (
	"bytes"
	"math"
	"reflect"
	"slices"
	"strings"
	"testing"

	"keysmith/api"
	"keysmith/limb"
	"keysmith/machine"
	"keysmith/memory"
)

// wide answers a program with a public BufOut of each of these sizes.
func wide(sizes ...int) api.LimbProg {
	var p api.LimbProg
	for _, n := range sizes {
		p.Bufs = append(p.Bufs, api.Buf{Size: n, Kind: api.BufOut})
	}
	return p
}

// noughts answers rows for wide.
func noughts(p api.LimbProg) [][]uint64 {
	var l [][]uint64
	for _, b := range p.Bufs {
		l = append(l, make([]uint64, b.Size))
	}
	return l
}

// wrongs are programs that limb.Check does not let be, one for each of its errors.
func wrongs() []api.LimbProg {
	return []api.LimbProg{
		{Regs: 65}, {Regs: -1}, wide(0), wide(1<<16 + 1), wide(slices.Repeat([]int{1}, 33)...), program(op(99)), program(move(0, 64)),
		program(end), program(loop(0, 2)), program(move(0, 1)), program(nest(1, 9)...), program(load(0, -1, publicIn, 3)), program(store(-1, 0, publicOut, 0)),
	}
}

// P15.1: limb's errors, and secrecy's, come first
func TestWrongPrograms(t *testing.T) {
	full := wide(1<<16, 1<<16, 1)
	for _, p := range wrongs() {
		for _, bufs := range [][]api.Buf{p.Bufs, slices.Concat(p.Bufs, full.Bufs)} {
			p.Bufs = bufs
			_, want := limb.Check(p)
			if want == api.OK {
				t.Fatalf("%+v may be", p)
			}
			refuses(t, p, want)
			starts(t, p, api.Code{Stack: -1}, nil, want)
			runsNot(t, p, api.Code{Steps: math.MaxInt}, nil, want)
			if l := Offsets(p); len(l) > 0 {
				t.Errorf("Offsets of %+v: %v", p, l)
			}
		}
	}
	for _, l := range [][]api.LimbOp{
		row(load(0, -1, secretIn, 0), store(-1, 0, publicOut, 0)), row(load(0, -1, secretIn, 0), load(1, 0, publicIn, 0)), row(load(0, -1, secretIn, 0), store(0, 0, secretOut, 0)),
		row(loop(0, 1), end, load(0, -1, secretIn, 0)),
	} {
		p := program(l...)
		refuses(t, p, api.ErrSecret)
		// The block is too long, too, but that comes later.
		p.Bufs = append(p.Bufs, full.Bufs...)
		refuses(t, p, api.ErrSecret)
		// Only Compile asks for what is secret.
		p = program(l...)
		starts(t, p, api.Code{}, given(), api.OK)
		if want := []int{0, 24, 48, 72, 96, 120}; !slices.Equal(Offsets(p), want) {
			t.Error(Offsets(p))
		}
	}
}

// starts holds Start's error, and that there is nothing beside one.
func starts(t *testing.T, p api.LimbProg, c api.Code, rows [][]uint64, want api.Errno) {
	t.Helper()
	s, m, e := Start(p, c, rows)
	if e != want || e != api.OK && (s != (api.State{}) || m != nil) || e == api.OK && m == nil {
		t.Errorf("Start of %d buffers, %d bytes of stack, %d rows: %+v, %v, %d, not %d", len(p.Bufs), c.Stack, len(rows), s, m, e, want)
	}
}

// runsNot holds that Run answers an error and nothing else.
func runsNot(t *testing.T, p api.LimbProg, c api.Code, rows [][]uint64, want api.Errno) {
	t.Helper()
	out, r, l, e := Run(p, c, rows)
	if e != want || len(out) > 0 || r != (api.Ran{}) || len(l) > 0 {
		t.Errorf("Run of %d buffers, %+v: %v, %+v, %v, %d, not %d", len(p.Bufs), c, out, r, l, e, want)
	}
}

// P15.1: ErrFull of a block of more than 2^20 bytes; one of just as many may be
func TestLongBlocks(t *testing.T) {
	for _, p := range []api.LimbProg{wide(1<<16, 1<<16), wide(slices.Repeat([]int{1 << 12}, 32)...), wide(1<<16, 1<<16-1, 1)} {
		c := compiles(t, p)
		out, _, _, e := Run(p, c, noughts(p))
		if e != api.OK || !sameRows(out, noughts(p)) {
			t.Error(e)
		}
	}
	for _, p := range []api.LimbProg{wide(1<<16, 1<<16, 1), wide(append(slices.Repeat([]int{1 << 12}, 31), 1<<12+1)...), wide(slices.Repeat([]int{1 << 16}, 32)...)} {
		refuses(t, p, api.ErrFull)
		starts(t, p, api.Code{}, noughts(p), api.ErrFull)
		// Wrong rows and a wrong Stack come first.
		starts(t, p, api.Code{}, noughts(p)[1:], api.ErrArg)
		starts(t, p, api.Code{Stack: 4097}, noughts(p), api.ErrArg)
		runsNot(t, p, api.Code{}, noughts(p), api.ErrFull)
	}
	// Where each begins is told all the same.
	if l := Offsets(wide(slices.Repeat([]int{1 << 16}, 32)...)); len(l) != 32 || l[31] != 31<<19 {
		t.Error(l)
	}
	if l := Offsets(wide(3, 1, 1<<16, 2)); !slices.Equal(l, []int{0, 24, 32, 32 + 1<<19}) {
		t.Error(l)
	}
	if l := Offsets(api.LimbProg{}); len(l) > 0 {
		t.Error(l)
	}
}

// P15.1: code of as many bytes as may be, and ErrFull of more
func TestLongCode(t *testing.T) {
	// As many operations as may be have code, if they are short.
	short := program(slices.Repeat(row(constant(0, 1<<64-2)), 1<<16)...)
	if c := compiles(t, short); c.Steps < 1<<16 {
		t.Error(c.Steps)
	}
	// What is held all along waits in slots: each operation has to fetch it and bring it back.
	p := crowded()
	body := p.Ops[64 : len(p.Ops)-1]
	for len(p.Ops) < 1<<16 {
		p.Ops = slices.Insert(p.Ops, len(p.Ops)-1, body...)
		p.Ops = append(p.Ops[:min(len(p.Ops), 1<<16)-1], end)
	}
	refuses(t, p, api.ErrFull)
	// With fewer and fewer operations there is code at last, and it is as long as may be.
	least, most := 64, len(p.Ops)
	for least+1 < most {
		middle := (least + most) / 2
		q := limb.Copy(p)
		q.Ops = append(q.Ops[:middle], end)
		if _, e := Compile(q); e == api.OK {
			least = middle
		} else {
			refuses(t, q, api.ErrFull)
			most = middle
		}
	}
	p.Ops = append(p.Ops[:least], end)
	if c := compiles(t, p); len(c.Bytes) < 1<<20-100 {
		t.Error(len(c.Bytes))
	}
	other := given()
	other[secretIn] = []uint64{5, 6, 7}
	both(t, p, given(), other)
}

// P15.1: a start, by hand
func TestStart(t *testing.T) {
	rows := given()
	for _, stack := range []int{0, 1, 8, 24, 4095, 4096} {
		s, m, e := Start(program(), api.Code{Bytes: "anything", Stack: stack, Steps: -5}, rows)
		want := api.State{PC: 1 << 22, Regs: [16]uint64{3: 1003, 4: 1<<31 - 8, 5: 1005, 7: 1 << 30, 12: 1012, 13: 1013, 14: 1014, 15: 1015}}
		if e != api.OK || s != want {
			t.Errorf("%+v, %d, not %+v", s, e, want)
		}
		block := make([]byte, 18*8)
		for k, v := range []uint64{11, 1<<64 - 1, 13, 0, 1, 2, 31, 32, 33, 41, 42, 43} {
			for i := range 8 {
				block[8*k+i] = byte(v >> (8 * i))
			}
		}
		frame := make([]byte, stack+8)
		frame[stack] = 1
		regions := []api.Region{{Base: 1 << 30, Bytes: block, Write: true}, {Base: uint64(1<<31 - 8 - stack), Bytes: frame, Write: true}}
		if !reflect.DeepEqual(m.Regions(), regions) {
			t.Errorf("%v, not %v", m.Regions(), regions)
		}
	}
	if !sameRows(rows, given()) {
		t.Error(rows)
	}
	// Without buffers there is no block.
	_, m, e := Start(api.LimbProg{Regs: 3}, api.Code{}, nil)
	if e != api.OK || !reflect.DeepEqual(m.Regions(), []api.Region{{Base: 1<<31 - 8, Bytes: []byte{1, 0, 0, 0, 0, 0, 0, 0}, Write: true}}) {
		t.Error(m.Regions(), e)
	}
}

// P15.1: ErrArg of rows that limb.Run would not take, and of a Stack that may not be
func TestStartRefuses(t *testing.T) {
	p := program()
	long := append(given(), nil)
	for k, row := range given() {
		more, fewer := given(), given()
		more[k] = append(slices.Clone(row), 5)
		starts(t, p, api.Code{}, more, api.ErrArg)
		if len(row) > 0 {
			fewer[k] = row[1:]
			starts(t, p, api.Code{}, fewer, api.ErrArg)
		} else {
			fewer[k] = []uint64{1, 2, 3}
			starts(t, p, api.Code{}, fewer, api.ErrArg)
		}
	}
	for _, rows := range [][][]uint64{nil, {}, given()[:5], long} {
		starts(t, p, api.Code{}, rows, api.ErrArg)
		runsNot(t, p, api.Code{Steps: math.MaxInt}, rows, api.ErrArg)
	}
	for _, stack := range []int{math.MinInt, -4096, -8, -1, 4097, 4104, 1 << 20, 1 << 31, math.MaxInt} {
		starts(t, p, api.Code{Stack: stack}, given(), api.ErrArg)
		runsNot(t, p, api.Code{Stack: stack, Steps: math.MaxInt}, given(), api.ErrArg)
	}
}

// loading is code that adds what the first limb has to the limb behind it, and goes home: 5 steps.
const loading = "\x48\x8b\x07" + "\x48\x8b\x4f\x08" + "\x48\x01\xc1" + "\x48\x89\x4f\x08" + "\xc3"

// P15.2: Run of code by hand: Steps are its fuel
func TestRun(t *testing.T) {
	p := program()
	for _, steps := range []int{5, 6, 1 << 30} {
		out, r, l, e := Run(p, api.Code{Bytes: loading, Steps: steps}, given())
		want := given()
		want[0][1], want[4], want[5] = 10, make([]uint64, 3), make([]uint64, 3)
		s, m, _ := Start(p, api.Code{}, given())
		ran, seen := machine.Run(loading, s, m, steps)
		if e != api.OK || !sameRows(out, want) || r != ran || !slices.Equal(l, seen) || r.Steps != 5 || r.State.PC != 1 {
			t.Errorf("%v, %+v, %v, %d; not %v, %+v, %v", out, r, l, e, want, ran, seen)
		}
	}
	for _, steps := range []int{1<<30 + 1, 1 << 50, math.MaxInt} {
		runsNot(t, p, api.Code{Bytes: loading, Steps: steps}, given(), api.ErrFull)
	}
}

// P15.2: with machine's error, too, all is told as it is then.
func TestRunWithErrors(t *testing.T) {
	p := program()
	for _, c := range []struct {
		code  api.Code
		want  api.Errno
		steps int
	}{
		{api.Code{Bytes: loading, Steps: 4}, api.ErrFull, 4},
		{api.Code{Bytes: loading}, api.ErrFull, 0},
		{api.Code{Bytes: loading, Steps: -1}, api.ErrArg, 0},
		{api.Code{Bytes: loading, Steps: math.MinInt}, api.ErrArg, 0},
		{api.Code{Bytes: strings.Repeat("\xc3", 1<<20+1), Steps: 5}, api.ErrArg, 0},
		{api.Code{Bytes: loading[:14], Steps: 9}, api.ErrFault, 4},
		{api.Code{Steps: 9}, api.ErrFault, 0},
		{api.Code{Bytes: loading[:14] + "\x00", Steps: 9}, api.ErrFault, 4},
		{api.Code{Bytes: loading[:14] + "\x50\xc3", Steps: 9}, api.ErrFault, 4},
		{api.Code{Bytes: loading[:14] + "\x50\xc3", Steps: 9, Stack: 7}, api.ErrFault, 4},
		{api.Code{Bytes: loading[:14] + "\x50\x58\xc3", Steps: 9, Stack: 8}, api.OK, 7},
	} {
		out, r, l, e := Run(p, c.code, given())
		s, m, _ := Start(p, c.code, given())
		ran, seen := machine.Run(c.code.Bytes, s, m, c.code.Steps)
		want := given()
		want[4], want[5] = make([]uint64, 3), make([]uint64, 3)
		if c.steps >= 4 {
			want[0][1] = 10
		}
		if e != c.want || r != ran || r.Err != c.want || r.Steps != c.steps || !slices.Equal(l, seen) || !sameRows(out, want) {
			t.Errorf("%+v: %v, %+v, %v, %d; not %v, %+v, %v, %d", c.code, out, r, l, e, want, ran, seen, c.want)
		}
	}
}

// P15.2: Clean looks at the frame's bytes, each, and at no other
func TestClean(t *testing.T) {
	p := program()
	for _, stack := range []int{0, 1, 8, 40, 4096} {
		c := api.Code{Stack: stack}
		_, m, _ := Start(p, c, given())
		if !Clean(c, m) {
			t.Errorf("%d bytes: not clean", stack)
		}
		for k := range stack {
			for _, v := range []byte{1, 255} {
				frame := make([]byte, stack+8)
				frame[k] = v
				m, e := memory.New([]api.Region{{Base: uint64(1<<31 - 8 - stack), Bytes: frame}})
				if e != api.OK || Clean(c, m) {
					t.Fatalf("%d bytes, the one at %d is %d: clean", stack, k, v)
				}
			}
		}
	}
	around := bytes.Repeat([]byte{9}, 48)
	clear(around[16:40])
	m, _ := memory.New([]api.Region{{Base: 1<<31 - 48, Bytes: around}})
	for stack, want := range map[int]bool{0: true, 1: true, 24: true, 25: false, 40: false, 41: false, -1: false, -8: false, math.MinInt: false, 4096: false, math.MaxInt: false, 1<<31 - 8: false, 1 << 31: false} {
		if Clean(api.Code{Stack: stack}, m) != want {
			t.Errorf("%d bytes: %v", stack, !want)
		}
	}
}

// P15.2: of no memory, and of one that has no such bytes, Clean is false.
func TestCleanOfNothing(t *testing.T) {
	made, _ := memory.New(nil)
	copied := *made
	for _, m := range []*memory.Memory{nil, {}, made, &copied} {
		for _, stack := range []int{0, 8, 4096, -1} {
			if Clean(api.Code{Stack: stack}, m) {
				t.Errorf("%d bytes: clean", stack)
			}
		}
	}
	short, _ := memory.New([]api.Region{{Base: 1<<31 - 16, Bytes: make([]byte, 16)}})
	if Clean(api.Code{Stack: 9}, short) || !Clean(api.Code{Stack: 8}, short) {
		t.Error("of too few bytes")
	}
}

// Answers are new memory; the same is answered each time.
func TestNewMemory(t *testing.T) {
	p := crowded()
	c := compiles(t, p)
	if again := compiles(t, p); again != c {
		t.Error("other code")
	}
	rows := given()
	first, _, seen, _ := Run(p, c, rows)
	was, wasSeen := copied(first), slices.Clone(seen)
	second, _, l, _ := Run(p, c, rows)
	if !sameRows(second, was) || !slices.Equal(l, wasSeen) {
		t.Error("another run")
	}
	for k := range second {
		clear(second[k][:cap(second[k])])
		if !sameRows(first, was) {
			t.Error("two answers share a row")
		}
	}
	// No two rows of one answer share anything, their spare room neither.
	third, _, _, _ := Run(p, c, rows)
	for k := range third {
		clear(third[k][:cap(third[k])])
		for j := k + 1; j < len(third); j++ {
			if !slices.Equal(third[j], was[j]) {
				t.Error("two rows share something")
			}
		}
	}
	clear(l[:cap(l)])
	at := Offsets(p)
	clear(at[:cap(at)])
	if !sameRows(rows, given()) || !slices.Equal(seen, wasSeen) || Offsets(p)[5] != 120 {
		t.Error(rows, Offsets(p))
	}
	_, m, _ := Start(p, c, rows)
	m.Store(1<<30, 99)
	if rows[0][0] != 11 {
		t.Error("a start shares what was handed in")
	}
}
