package lower

import (
	"slices"
	"testing"

	"keysmith/api"
	"keysmith/limb"
	"keysmith/machine"
	"keysmith/memory"
	"keysmith/secrecy"
)

// Operations by hand: op has nothing but its kind.

func op(kind int) api.LimbOp {
	return api.LimbOp{Kind: kind, D: -1, E: -1, A: -1, B: -1, C: -1}
}

func constant(d int, imm uint64) api.LimbOp {
	return api.LimbOp{Kind: api.LimbConst, D: d, E: -1, A: -1, B: -1, C: -1, Imm: imm}
}

func move(d, a int) api.LimbOp {
	return api.LimbOp{Kind: api.LimbMove, D: d, E: -1, A: a, B: -1, C: -1}
}

func two(kind, d, a, b int) api.LimbOp {
	return api.LimbOp{Kind: kind, D: d, E: -1, A: a, B: b, C: -1}
}

func shift(kind, d, a int, imm uint64) api.LimbOp {
	return api.LimbOp{Kind: kind, D: d, E: -1, A: a, B: -1, C: -1, Imm: imm}
}

func mul(d, e, a, b int) api.LimbOp {
	return api.LimbOp{Kind: api.LimbMul, D: d, E: e, A: a, B: b, C: -1}
}

func adc(d, e, a, b, c int) api.LimbOp {
	return api.LimbOp{Kind: api.LimbAdc, D: d, E: e, A: a, B: b, C: c}
}

func sbb(d, e, a, b, c int) api.LimbOp {
	return api.LimbOp{Kind: api.LimbSbb, D: d, E: e, A: a, B: b, C: c}
}

func sel(d, a, b, c int) api.LimbOp {
	return api.LimbOp{Kind: api.LimbSel, D: d, E: -1, A: a, B: b, C: c}
}

func load(d, a, buf int, imm uint64) api.LimbOp {
	return api.LimbOp{Kind: api.LimbLoad, D: d, E: -1, A: a, B: -1, C: -1, Buf: buf, Imm: imm}
}

func store(a, b, buf int, imm uint64) api.LimbOp {
	return api.LimbOp{Kind: api.LimbStore, D: -1, E: -1, A: a, B: b, C: -1, Buf: buf, Imm: imm}
}

func loop(d int, times uint64) api.LimbOp {
	return api.LimbOp{Kind: api.LimbLoop, D: d, E: -1, A: -1, B: -1, C: -1, Imm: times}
}

var end = op(api.LimbEnd)

// row puts operations behind one another.
func row(l ...api.LimbOp) []api.LimbOp { return l }

// The buffers of program: one of each kind, secret or not.
const (
	secretIn = iota
	publicIn
	secretOut
	publicOut
	secretTmp
	publicTmp
)

// program answers a program over 64 registers and a buffer of each kind, secret and public, of 3 limbs.
func program(l ...api.LimbOp) api.LimbProg {
	p := api.LimbProg{Regs: 64, Ops: l}
	for kind := api.BufIn; kind <= api.BufTmp; kind++ {
		p.Bufs = append(p.Bufs, api.Buf{Size: 3, Kind: kind, Secret: true}, api.Buf{Size: 3, Kind: kind})
	}
	return p
}

// given answers rows for program.
func given() [][]uint64 {
	return [][]uint64{{11, 1<<64 - 1, 13}, {0, 1, 2}, {31, 32, 33}, {41, 42, 43}, nil, {}}
}

func copied(rows [][]uint64) [][]uint64 {
	l := make([][]uint64, len(rows))
	for k, r := range rows {
		l[k] = slices.Clone(r)
	}
	return l
}

func sameRows(a, b [][]uint64) bool {
	return slices.EqualFunc(a, b, slices.Equal[[]uint64])
}

// compiles answers a program's code, and holds that it is within the limits.
func compiles(t *testing.T, p api.LimbProg) api.Code {
	t.Helper()
	before := limb.Copy(p)
	c, e := Compile(p)
	if e != api.OK {
		t.Fatalf("Compile of %+v: %d", p, e)
	}
	if len(c.Bytes) == 0 || len(c.Bytes) > 1<<20 || c.Stack < 0 || c.Stack > 1<<12 || c.Steps < 1 {
		t.Fatalf("Compile of %+v: %d bytes, %d, %d", p, len(c.Bytes), c.Stack, c.Steps)
	}
	if !limb.Same(p, before) {
		t.Fatalf("%+v is changed, it was %+v", p, before)
	}
	return c
}

// refuses holds that there is no code of a program.
func refuses(t *testing.T, p api.LimbProg, want api.Errno) {
	t.Helper()
	if c, e := Compile(p); e != want || c != (api.Code{}) {
		t.Errorf("Compile of %+v: %d, not %d; %d bytes, %d, %d", p, e, want, len(c.Bytes), c.Stack, c.Steps)
	}
}

// does holds that code does what it must do, from a start with these rows and from others, and answers what was seen.
func does(t *testing.T, p api.LimbProg, c api.Code, rows [][]uint64) []api.Event {
	t.Helper()
	want, _, e := limb.Run(p, rows)
	if e != api.OK {
		t.Fatalf("limb.Run of %+v: %d", p, e)
	}
	was := copied(rows)
	out, r, l, e := Run(p, c, rows)
	home := api.State{PC: 1, CF: r.State.CF, OF: r.State.OF, ZF: r.State.ZF}
	home.Regs = [16]uint64{3: 1003, 4: 1 << 31, 5: 1005, 7: 1 << 30, 12: 1012, 13: 1013, 14: 1014, 15: 1015}
	if e != api.OK || r != (api.Ran{State: home, Steps: c.Steps}) {
		t.Fatalf("Run of %+v with %v: %d; %+v, not %+v in %d steps", p, rows, e, r, home, c.Steps)
	}
	if !sameRows(out, want) {
		t.Fatalf("Run of %+v with %v: %v, not %v", p, rows, out, want)
	}
	if !sameRows(rows, was) {
		t.Fatalf("Run of %+v changed what was handed in: %v, it was %v", p, rows, was)
	}
	touches(t, p, c, l)
	stays(t, p, c, rows, l)
	return l
}

// touches holds that what was seen touches nothing that it may not touch.
func touches(t *testing.T, p api.LimbProg, c api.Code, l []api.Event) {
	t.Helper()
	const home = 1<<31 - 8
	bytes := 0
	var open []bool // of each byte of the block, whether it may be written
	for _, b := range p.Bufs {
		bytes += 8 * b.Size
		open = append(open, slices.Repeat([]bool{b.Kind != api.BufIn}, 8*b.Size)...)
	}
	for k, event := range l {
		at := event.Addr
		frame := at >= home-uint64(c.Stack) && at <= home-8
		block := at >= 1<<30 && at+8 <= 1<<30+uint64(bytes)
		ok := true
		switch event.Kind {
		case api.EventRead:
			ok = frame || block || at == home && k == len(l)-2
		case api.EventWrite:
			ok = frame || block && open[at-1<<30]
		}
		if !ok {
			t.Fatalf("code of %+v, %d bytes of stack: event %d of %d is %+v", p, c.Stack, k, len(l), event)
		}
	}
}

// stays holds that a run wipes the frame, and that what must stay does so, whatever it is, though all else is something else at first.
func stays(t *testing.T, p api.LimbProg, c api.Code, rows [][]uint64, want []api.Event) {
	t.Helper()
	s, m, e := Start(p, c, rows)
	if e != api.OK {
		t.Fatalf("Start of %+v: %d", p, e)
	}
	for r := range s.Regs {
		if r != api.RSP && r != api.RDI {
			s.Regs[r] = 77777 * uint64(r+5)
		}
	}
	s.CF, s.OF, s.ZF = true, true, true
	for k := 8; k <= c.Stack; k += 8 {
		m.Store(1<<31-8-uint64(k), 99)
	}
	r, l := machine.Run(c.Bytes, s, m, c.Steps)
	home := s
	home.PC, home.Regs[api.RSP] = 1, 1<<31
	for _, loose := range []int{api.RAX, api.RCX, api.RDX, api.RSI, api.R8, api.R9, api.R10, api.R11} {
		home.Regs[loose] = 0
	}
	home.CF, home.OF, home.ZF = r.State.CF, r.State.OF, r.State.ZF
	if r != (api.Ran{State: home, Steps: c.Steps}) {
		t.Fatalf("a run of %+v: %+v, not %+v in %d steps", p, r, home, c.Steps)
	}
	if !slices.Equal(l, want) {
		t.Fatalf("what is seen of %+v hangs on registers", p)
	}
	if !Clean(c, m) || !wiped(c, m) {
		t.Fatalf("the frame of %+v is left with something", p)
	}
}

// wiped looks at each byte of the frame.
func wiped(c api.Code, m *memory.Memory) bool {
	for k := 1; k <= c.Stack; k++ {
		if s, e := m.Bytes(1<<31-8-uint64(k), 1); e != api.OK || s != "\x00" {
			return false
		}
	}
	return true
}

// both holds that code does what it must do with two rows that are alike but for secrets, and that both see the same.
func both(t *testing.T, p api.LimbProg, a, b [][]uint64) api.Code {
	t.Helper()
	if !secrecy.Public(p, a, b) {
		t.Fatalf("%v and %v are not Public of %+v", a, b, p)
	}
	c := compiles(t, p)
	if !slices.Equal(does(t, p, c, a), does(t, p, c, b)) {
		t.Fatalf("what is seen of %+v hangs on what is secret: %v, %v", p, a, b)
	}
	return c
}

// P15.1, the document's example: without operations it comes home.
func TestNothing(t *testing.T) {
	for _, p := range []api.LimbProg{{}, {Regs: 64}, {Bufs: program().Bufs}, program()} {
		rows := given()[:len(p.Bufs)]
		c := compiles(t, p)
		does(t, p, c, rows)
		if c.Stack != 0 {
			t.Error(c)
		}
	}
}
