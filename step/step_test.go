package step

import (
	"bytes"
	"math"
	"math/rand"
	"slices"
	"testing"

	"keysmith/api"
	"keysmith/inst"
	"keysmith/memory"
)

const (
	top  = 1<<64 - 1
	sign = 1 << 63
	base = 1 << 20 // of the region of most tests
	room = 64      // how many bytes it has
)

func edges() []uint64 {
	return []uint64{0, 1, 2, 3, 7, 8, 1<<31 - 1, 1 << 31, 1<<32 - 1, 1 << 32, sign - 1, sign, sign + 1, top - 8, top - 7, top - 1, top, 0x0123456789abcdef, 0xaaaaaaaaaaaaaaaa}
}

func numbers() []int64 {
	return []int64{0, 1, -1, 2, -2, 31, 32, 62, 63, 127, -128, 0x12345678, 1<<31 - 1, -1 << 31, 1<<31 + 5, sign - 1, -sign, 0x123456789abcdef}
}

func filled(n int) []byte {
	b := make([]byte, n)
	for k := range b {
		b[k] = byte(37*k + 5)
	}
	return b
}

func made(t *testing.T, l ...api.Region) *memory.Memory {
	t.Helper()
	m, e := memory.New(l)
	if e != api.OK {
		t.Fatal(e)
	}
	return m
}

func writable(t *testing.T) *memory.Memory {
	t.Helper()
	return made(t, api.Region{Base: base, Bytes: filled(room), Write: true})
}

// like holds what an instruction does against the model.
func like(t *testing.T, s api.State, i api.Inst, size int, from uint64, write bool) api.Errno {
	t.Helper()
	want := model{s: s, base: from, bytes: filled(room), write: write}
	e := api.Errno(api.OK)
	if !want.do(i, size) {
		want, e = model{s: s, bytes: filled(room)}, api.ErrFault
	}
	m := made(t, api.Region{Base: from, Bytes: filled(room), Write: write})
	next, l, got := Do(s, i, size, m)
	if next != want.s || !slices.Equal(l, want.seen) || got != e {
		t.Fatalf("%+v, %+v, %d: %+v, %v, %d, not %+v, %v, %d", s, i, size, next, l, got, want.s, want.seen, e)
	}
	if now := m.Regions()[0].Bytes; !bytes.Equal(now, want.bytes) {
		t.Fatalf("%+v, %+v: memory % x, not % x", s, i, now, want.bytes)
	}
	return e
}

// states answers a state for all flags.
func states(s api.State) []api.State {
	var l []api.State
	for n := range 8 {
		s.CF, s.OF, s.ZF = n&1 == 1, n&2 == 2, n&4 == 4
		l = append(l, s)
	}
	return l
}

// far answers a state whose registers are all unlike, and in no region.
func far() api.State {
	s := api.State{PC: 1 << 22}
	for r := range s.Regs {
		s.Regs[r] = uint64(r+1)<<40 + uint64(3*r)
	}
	return s
}

func chance() *rand.Rand { return rand.New(rand.NewSource(8)) }

// P8.2: all that reckons with D, S and a number, at the edges, of all flags; D and S unlike, and one
func TestReckoning(t *testing.T) {
	for op := api.OpMov; op <= api.OpRet; op++ {
		for _, a := range edges() {
			for _, b := range edges() {
				s := far()
				s.Regs[api.RBX], s.Regs[api.R9] = a, b
				for _, s := range states(s) {
					alike(t, s, api.Inst{Op: op, D: api.RBX, S: api.R9})
				}
			}
			s := far()
			s.Regs[api.R9] = a
			for _, s := range states(s) {
				alike(t, s, api.Inst{Op: op, D: api.R9, S: api.R9})
				alike(t, s, api.Inst{Op: op, D: api.R9})
				for _, n := range numbers() {
					alike(t, s, api.Inst{Op: op, D: api.R9, Imm: n})
				}
			}
		}
	}
}

// alike is like for an instruction that need not be one, of a region far away.
func alike(t *testing.T, s api.State, i api.Inst) {
	t.Helper()
	if inst.Check(i) == api.OK {
		like(t, s, i, 4, base, true)
	}
}

// P8.2: each shift, by all numbers
func TestShifts(t *testing.T) {
	for n := int64(1); n <= 63; n++ {
		for _, a := range append(edges(), 1<<n, 1<<(64-n), 1<<(n-1), top<<n, top>>n) {
			s := far()
			s.Regs[api.RDX] = a
			for _, s := range states(s) {
				like(t, s, api.Inst{Op: api.OpShl, D: api.RDX, Imm: n}, 4, base, true)
				like(t, s, api.Inst{Op: api.OpShr, D: api.RDX, Imm: n}, 4, base, true)
			}
		}
	}
}

// P8.2: OpMulx of all registers: those that are RDX, those that are T, too
func TestProducts(t *testing.T) {
	for d := range 16 {
		for s := range 16 {
			for f := range 16 {
				i := api.Inst{Op: api.OpMulx, D: d, S: s, T: f}
				x := far()
				x.Regs[f], x.Regs[api.RDX] = top-uint64(d), sign+uint64(7*s)
				alike(t, x, i)
				x.Regs[f], x.Regs[api.RDX] = 3, 5
				alike(t, x, i)
			}
		}
	}
}

// P8.2: each operation with all registers, by chance for what they have, the memory, the size
func TestAllRegisters(t *testing.T) {
	c := chance()
	for op := api.OpMov; op <= api.OpRet; op++ {
		for d := range 16 {
			for s := range 16 {
				x := near(c)
				for _, i := range []api.Inst{{Op: op, D: d, S: s}, {Op: op, D: d}, {Op: op, S: s}, {Op: op}, {Op: op, D: d, Imm: int64(1 + c.Intn(63))}, {Op: op, Imm: int64(int32(c.Uint32()))}, {Op: op, D: d, M: place(c, &x)}, {Op: op, S: s, M: place(c, &x)}} {
					if inst.Check(i) == api.OK {
						like(t, x, i, 1+c.Intn(15), base, c.Intn(4) > 0)
					}
				}
			}
		}
	}
}

// near answers a state by chance whose RSP is at the region, or near.
func near(c *rand.Rand) api.State {
	s := api.State{PC: c.Uint64(), CF: c.Intn(2) == 1, OF: c.Intn(2) == 1, ZF: c.Intn(2) == 1}
	for r := range s.Regs {
		s.Regs[r] = c.Uint64() >> c.Intn(64)
	}
	s.Regs[api.RSP] = base + uint64(c.Intn(room+16)) - 8
	return s
}

// place answers a place by chance, at the region if RSP is not in it, or near.
func place(c *rand.Rand, s *api.State) api.Mem {
	m := api.Mem{Base: c.Intn(16), Index: c.Intn(17) - 1, Scale: 1 << c.Intn(4), Disp: int64(int32(c.Uint32())) >> c.Intn(32)}
	if m.Index == api.RSP {
		m.Index = api.None
	}
	if m.Index == api.None {
		m.Scale = 1
	}
	if m.Base != api.RSP && m.Base != m.Index {
		s.Regs[m.Base] += base + uint64(c.Intn(room+16)) - 8 - Address(*s, m)
	}
	return m
}

// P8.2: words at the region's beginning and end, and behind; regions that may not be written; at both ends of memory
func TestTouched(t *testing.T) {
	for _, from := range []uint64{0, 1, 8, base, 1<<63 - 32, top - room, top - room + 1} {
		for _, write := range []bool{true, false} {
			for n := -17; n <= room+17; n++ {
				touchAt(t, from, uint64(n), write)
			}
		}
	}
}

func touchAt(t *testing.T, from, n uint64, write bool) {
	t.Helper()
	for _, i := range []api.Inst{
		{Op: api.OpLoad, D: api.RAX, M: api.Mem{Base: api.RSI, Index: api.None, Scale: 1}},
		{Op: api.OpLoad, D: api.RSI, M: api.Mem{Base: api.RSI, Index: api.None, Scale: 1}},
		{Op: api.OpStore, S: api.RSI, M: api.Mem{Base: api.RSI, Index: api.None, Scale: 1}},
		{Op: api.OpStore, S: api.R8, M: api.Mem{Base: api.RSP, Index: api.None, Scale: 1}},
		{Op: api.OpPush, S: api.RBP}, {Op: api.OpPush, S: api.RSP},
		{Op: api.OpPop, D: api.RBP}, {Op: api.OpPop, D: api.RSP},
		{Op: api.OpRet},
	} {
		s := far()
		s.Regs[api.RSI], s.Regs[api.RSP] = from+n, from+n
		e := like(t, s, i, 3, from, write)
		at, writes := n, i.Op == api.OpStore || i.Op == api.OpPush
		if i.Op == api.OpPush {
			at -= 8
		}
		if ok := at <= room-8 && (write || !writes); ok != (e == api.OK) {
			t.Fatalf("%+v at %d of %x, written %t: %d", i, int64(n), from, write, e)
		}
	}
}

// P8.2: a word that lies in two regions is in none; one in the second of two is touched there.
func TestTwoRegions(t *testing.T) {
	m := made(t, api.Region{Base: 100, Bytes: filled(16), Write: true}, api.Region{Base: 116, Bytes: filled(16), Write: true})
	at := func(r uint64) api.State { return api.State{Regs: [16]uint64{api.RSP: r, api.RAX: 99}} }
	if _, _, e := Do(at(112), api.Inst{Op: api.OpPop}, 1, m); e != api.ErrFault {
		t.Error(e)
	}
	if _, _, e := Do(at(132), api.Inst{Op: api.OpPush}, 1, m); e != api.OK {
		t.Error(e)
	}
	if v, _ := m.Load(124); v != 99 {
		t.Error(v)
	}
}

// P8.2: where it goes on, round at 2^64, for all sizes; a jump is seen whether it is taken or not.
func TestJumps(t *testing.T) {
	for _, pc := range []uint64{0, 5, 1 << 22, sign - 3, top - 20, top - 1, top} {
		for size := 1; size <= 15; size++ {
			for _, to := range []int64{0, 1, -1, -6, 127, -128, 1<<31 - 1, -1 << 31} {
				for _, op := range []int{api.OpJmp, api.OpJnz, api.OpJc} {
					for _, s := range states(api.State{PC: pc}) {
						like(t, s, api.Inst{Op: op, Imm: to}, size, base, true)
					}
				}
			}
			like(t, api.State{PC: pc}, api.Inst{Op: api.OpNot}, size, base, true)
		}
	}
}

// P8.2, by hand: flags
func TestFlags(t *testing.T) {
	for _, c := range []struct {
		op         int
		d, s       uint64
		n          int64
		ahead      string
		want       uint64
		afterwards string
	}{
		{api.OpAdd, top, 1, 0, "", 0, "CZ"},
		{api.OpAdd, sign - 1, 1, 0, "CZ", sign, "O"},
		{api.OpAdd, sign, sign, 0, "", 0, "COZ"},
		{api.OpAdd, 2, 3, 0, "COZ", 5, ""},
		{api.OpAdc, top, 0, 0, "C", 0, "CZ"},
		{api.OpAdc, top, top, 0, "C", top, "C"},
		{api.OpAdc, sign - 1, 0, 0, "C", sign, "O"},
		{api.OpAdc, 1, 0, 0, "OZ", 1, ""},
		{api.OpSub, 0, 1, 0, "", top, "C"},
		{api.OpSub, sign, 1, 0, "", sign - 1, "O"},
		{api.OpSub, sign - 1, top, 0, "", sign, "CO"},
		{api.OpSub, 7, 7, 0, "C", 0, "Z"},
		{api.OpSbb, 0, 0, 0, "C", top, "C"},
		{api.OpSbb, 0, top, 0, "C", 0, "CZ"},
		{api.OpSbb, 5, 4, 0, "C", 0, "Z"},
		{api.OpSbb, sign, 0, 0, "C", sign - 1, "O"},
		{api.OpCmp, 3, 4, 0, "Z", 3, "C"},
		{api.OpCmp, 4, 4, 0, "C", 4, "Z"},
		{api.OpTest, 4, 3, 0, "CO", 4, "Z"},
		{api.OpAnd, 6, 3, 0, "COZ", 2, ""},
		{api.OpOr, 0, 0, 0, "CO", 0, "Z"},
		{api.OpXor, 5, 5, 0, "CO", 0, "Z"},
		{api.OpAddImm, 1, 0, -1, "O", 0, "CZ"},
		{api.OpAndImm, 1 << 40, 0, -1, "CO", 1 << 40, ""},
		{api.OpSubImm, 0, 0, -1, "", 1, "C"},
		{api.OpCmpImm, top, 0, -1, "CO", top, "Z"},
		{api.OpAdcx, top, 0, 0, "COZ", 0, "COZ"},
		{api.OpAdcx, top, 0, 0, "O", top, "O"},
		{api.OpAdcx, sign - 1, 1, 0, "", sign, ""},
		{api.OpAdox, top, 0, 0, "O", 0, "O"},
		{api.OpAdox, top, 0, 0, "CZ", top, "CZ"},
		{api.OpAdox, 1, 1, 0, "CO", 3, "C"},
		{api.OpNeg, 0, 0, 0, "CO", 0, "Z"},
		{api.OpNeg, 1, 0, 0, "Z", top, "C"},
		{api.OpNeg, sign, 0, 0, "", sign, "CO"},
		{api.OpNot, top, 0, 0, "CO", 0, "CO"},
		{api.OpShl, sign, 0, 1, "O", 0, "COZ"},
		{api.OpShl, sign, 0, 2, "C", 0, "Z"},
		{api.OpShl, 3, 0, 63, "Z", sign, "C"},
		{api.OpShr, 1, 0, 1, "", 0, "CZ"},
		{api.OpShr, 1, 0, 2, "CO", 0, "OZ"},
		{api.OpShr, 6, 0, 2, "Z", 1, "C"},
		{api.OpCmovc, 1, 2, 0, "C", 2, "C"},
		{api.OpCmovc, 1, 2, 0, "OZ", 1, "OZ"},
		{api.OpCmovnz, 1, 2, 0, "Z", 1, "Z"},
		{api.OpCmovnz, 1, 2, 0, "CO", 2, "CO"},
		{api.OpMov, 1, 0, 0, "COZ", 0, "COZ"},
	} {
		s := flagged(c.ahead)
		s.Regs[api.RBX], s.Regs[api.R12] = c.d, c.s
		want := flagged(c.afterwards)
		want.Regs[api.RBX], want.Regs[api.R12], want.PC = c.want, c.s, 3
		i := api.Inst{Op: c.op, D: api.RBX, S: api.R12, Imm: c.n}
		if c.n != 0 || c.op == api.OpNeg || c.op == api.OpNot {
			i.S = 0
		}
		next, l, e := Do(s, i, 3, writable(t))
		if next != want || e != api.OK || !slices.Equal(l, []api.Event{{Kind: api.EventStep}}) {
			t.Errorf("%+v: %+v, %v, %d", c, next, l, e)
		}
	}
}

// flagged answers a state with those flags.
func flagged(s string) (f api.State) {
	for _, c := range s {
		f.CF, f.OF, f.ZF = f.CF || c == 'C', f.OF || c == 'O', f.ZF || c == 'Z'
	}
	return f
}

// P8.1: Address of places that may be, and of any
func TestAddress(t *testing.T) {
	s := far()
	s.Regs[api.RAX], s.Regs[api.RCX], s.Regs[api.RDX] = 1000, 7, top
	for _, c := range []struct {
		m    api.Mem
		want uint64
	}{
		{api.Mem{Index: api.None, Scale: 1}, 1000},
		{api.Mem{Index: api.RCX, Scale: 1}, 1007},
		{api.Mem{Index: api.RCX, Scale: 8, Disp: -1}, 1055},
		{api.Mem{Base: api.RCX, Index: api.RAX, Scale: 4, Disp: 2}, 4009},
		{api.Mem{Base: api.RCX, Index: api.None, Scale: 1, Disp: -8}, top},
		{api.Mem{Base: api.RDX, Index: api.None, Scale: 1, Disp: 1}, 0},
		{api.Mem{Base: api.RDX, Index: api.RDX, Scale: 8}, top - 8},
		{api.Mem{Base: api.RSP, Index: api.RSP, Scale: 2}, 3 * s.Regs[api.RSP]},
		{api.Mem{Base: api.R15, Index: api.R15, Scale: 1}, 2 * s.Regs[api.R15]},
		{api.Mem{}, 1000},
		{api.Mem{Base: api.None, Index: api.None}, 0},
		{api.Mem{Base: api.None, Index: api.RCX, Scale: 3}, 21},
		{api.Mem{Base: 16, Index: 17, Scale: 8, Disp: 9}, 9},
		{api.Mem{Base: math.MaxInt, Index: math.MinInt, Scale: 8, Disp: -9}, top - 8},
		{api.Mem{Base: -2, Index: 16, Scale: math.MaxInt}, 0},
		{api.Mem{Index: api.RCX, Scale: -1}, 993},
		{api.Mem{Index: api.RCX, Scale: math.MinInt}, sign + 1000},
		{api.Mem{Index: api.RCX, Scale: 0, Disp: math.MaxInt64}, sign + 999},
		{api.Mem{Index: api.None, Disp: math.MinInt64}, sign + 1000},
	} {
		if got := Address(s, c.m); got != c.want {
			t.Errorf("%+v: %x, not %x", c.m, got, c.want)
		}
	}
}

// P8.1: Address is what OpLea makes, OpLoad reads, OpStore writes.
func TestAddressOfInstructions(t *testing.T) {
	c := chance()
	for range 2000 {
		s := near(c)
		p := place(c, &s)
		m := model{s: s}
		if got := Address(s, p); got != m.address(p) {
			t.Fatalf("%+v, %+v: %x, not %x", s, p, got, m.address(p))
		}
		next, _, e := Do(s, api.Inst{Op: api.OpLea, D: api.R8, M: p}, 4, writable(t))
		if next.Regs[api.R8] != m.address(p) || e != api.OK {
			t.Fatalf("%+v, %+v: %x, %d", s, p, next.Regs[api.R8], e)
		}
	}
}

// P8.1: Same
func TestSame(t *testing.T) {
	a := []api.Event{{Kind: api.EventStep, Addr: 5}, {Kind: api.EventRead, Addr: 9}}
	for n, c := range []struct {
		a, b []api.Event
		same bool
	}{
		{nil, nil, true}, {nil, []api.Event{}, true}, {[]api.Event{}, nil, true},
		{a, slices.Clone(a), true}, {a, a, true}, {slices.Clone(a), a, true},
		{a, nil, false}, {nil, a, false}, {nil, []api.Event{{}}, false}, {a, a[:1], false}, {a[:1], a, false}, {a[:1], a[1:], false},
		{a, []api.Event{a[1], a[0]}, false},
		{a, []api.Event{a[0], {Kind: api.EventRead, Addr: 10}}, false},
		{a, []api.Event{a[0], {Kind: api.EventWrite, Addr: 9}}, false},
		{a, []api.Event{{Kind: api.EventStep, Addr: 5 + 1<<32}, a[1]}, false},
		{[]api.Event{{Kind: -1}}, []api.Event{{Kind: -1}}, true},
	} {
		if Same(c.a, c.b) != c.same {
			t.Errorf("%d: %t", n, !c.same)
		}
	}
}

// wrongs answers instructions that may not be.
func wrongs() []api.Inst {
	return []api.Inst{
		{}, {Op: -1}, {Op: api.OpRet + 1}, {Op: math.MaxInt}, {Op: math.MinInt},
		{Op: api.OpMov, D: 16}, {Op: api.OpMov, S: -1}, {Op: api.OpMov, Imm: 1}, {Op: api.OpMov, T: 1}, {Op: api.OpMov, M: api.Mem{Scale: 1}},
		{Op: api.OpLoad}, {Op: api.OpLoad, M: api.Mem{Base: 16, Index: api.None, Scale: 1}}, {Op: api.OpLoad, M: api.Mem{Index: api.RSP, Scale: 1}},
		{Op: api.OpStore, M: api.Mem{Index: api.None, Scale: 2}}, {Op: api.OpLea, M: api.Mem{Index: api.None, Scale: 1, Disp: 1 << 31}},
		{Op: api.OpAddImm, Imm: 1 << 31}, {Op: api.OpShl}, {Op: api.OpShl, Imm: 64}, {Op: api.OpShr, Imm: -1},
		{Op: api.OpMulx}, {Op: api.OpMulx, D: 3, S: 3}, {Op: api.OpPush, S: 16}, {Op: api.OpPush, S: math.MaxInt}, {Op: api.OpPop, D: math.MinInt}, {Op: api.OpJmp, Imm: -1<<31 - 1}, {Op: api.OpRet, Imm: 1},
	}
}

// refused holds that nothing is done.
func refused(t *testing.T, s api.State, i api.Inst, size int, m *memory.Memory, want api.Errno) {
	t.Helper()
	ahead := m.Regions()
	next, l, e := Do(s, i, size, m)
	if next != s || len(l) != 0 || e != want {
		t.Errorf("%+v, %d: %+v, %v, %d, not %d", i, size, next, l, e, want)
	}
	if len(ahead) > 0 && !bytes.Equal(m.Regions()[0].Bytes, ahead[0].Bytes) {
		t.Errorf("%+v, %d: memory has changed", i, size)
	}
}

// P8.2: errors, in their order; then nothing changes, and nothing is seen.
func TestErrors(t *testing.T) {
	s := far()
	s.Regs[api.RSP] = base + 8
	s.CF, s.OF, s.ZF = true, true, true
	none := new(memory.Memory)
	copied := *writable(t)
	for _, i := range wrongs() {
		for _, m := range []*memory.Memory{writable(t), nil, none} {
			refused(t, s, i, 4, m, api.ErrArg)
			refused(t, s, i, 0, m, api.ErrArg)
		}
	}
	fault := api.Inst{Op: api.OpLoad, M: api.Mem{Index: api.None, Scale: 1}}
	for op := api.OpMov; op <= api.OpRet; op++ {
		for _, i := range []api.Inst{{Op: op}, {Op: op, D: 1}, {Op: op, D: 1, Imm: 1}, {Op: op, M: api.Mem{Base: api.RSP, Index: api.None, Scale: 1}}, fault} {
			if inst.Check(i) != api.OK {
				continue
			}
			for _, size := range []int{0, -1, 16, 17, math.MaxInt, math.MinInt, 1<<32 + 3} {
				refused(t, s, i, size, writable(t), api.ErrArg)
				refused(t, s, i, size, nil, api.ErrArg)
				refused(t, s, i, size, none, api.ErrArg)
			}
			for _, m := range []*memory.Memory{nil, none, &copied} {
				refused(t, s, i, 1, m, api.ErrNil)
				refused(t, s, i, 15, m, api.ErrNil)
			}
		}
	}
	refused(t, s, fault, 3, writable(t), api.ErrFault)
	refused(t, s, fault, 3, made(t), api.ErrFault)
	refused(t, s, api.Inst{Op: api.OpRet}, 1, made(t), api.ErrFault)
	if next, _, e := Do(s, api.Inst{Op: api.OpMov}, 3, made(t)); e != api.OK || next.PC != s.PC+3 {
		t.Error(next, e)
	}
}

// P8.2 and the rules: what is seen is an own list, its spare room too; the memory is the one that was handed in.
func TestOwnLists(t *testing.T) {
	m := writable(t)
	s := far()
	s.Regs[api.RSP] = base + 16
	push := api.Inst{Op: api.OpPush, S: api.R9}
	_, a, _ := Do(s, push, 2, m)
	want := slices.Clone(a)
	_, b, _ := Do(s, push, 2, m)
	b = b[:cap(b)]
	for n := range b {
		b[n] = api.Event{Kind: 77, Addr: 77}
	}
	if !slices.Equal(a, want) {
		t.Error(a)
	}
	if v, _ := m.Load(base + 8); v != s.Regs[api.R9] {
		t.Error(v)
	}
}

// P8.3: what is seen hangs on registers of places (RSP of those that push, pop, return), flags of jumps, what OpRet reads, alone.
func TestWhatSeenHangsOn(t *testing.T) {
	c := chance()
	ops := []int{api.OpLoad, api.OpStore, api.OpLea, api.OpPush, api.OpPop, api.OpJmp, api.OpJnz, api.OpJc, api.OpRet, api.OpAdc, api.OpMulx, api.OpCmovc, api.OpShl}
	for n := range 4000 {
		s := near(c)
		s.Regs[api.RSP] = base + 8 + uint64(c.Intn(room-16))
		i := api.Inst{Op: ops[n%len(ops)]}
		switch i.Op {
		case api.OpLoad, api.OpStore, api.OpLea:
			i.M = place(c, &s)
		case api.OpJmp, api.OpJnz, api.OpJc:
			i.Imm = int64(int32(c.Uint32()))
		case api.OpMulx:
			i.S = 1
		case api.OpShl:
			i.Imm = 9
		}
		_, a, e := Do(s, i, 5, writable(t))
		_, b, f := Do(others(c, s, i), i, 5, another(t, c, s, i))
		if e != f || !Same(a, b) {
			t.Fatalf("%+v, %+v: %v, %d; %v, %d", s, i, a, e, b, f)
		}
	}
}

// others answers a state with other numbers, but where what is seen may hang on them.
func others(c *rand.Rand, s api.State, i api.Inst) api.State {
	n := near(c)
	n.PC, n.Regs[api.RSP] = s.PC, s.Regs[api.RSP]
	if (i.M != api.Mem{}) {
		n.Regs[i.M.Base] = s.Regs[i.M.Base]
	}
	if (i.M != api.Mem{}) && i.M.Index != api.None {
		n.Regs[i.M.Index] = s.Regs[i.M.Index]
	}
	if i.Op == api.OpJnz {
		n.ZF = s.ZF
	}
	if i.Op == api.OpJc {
		n.CF = s.CF
	}
	return n
}

// another answers a memory with other bytes, but those that OpRet reads.
func another(t *testing.T, c *rand.Rand, s api.State, i api.Inst) *memory.Memory {
	t.Helper()
	l := writable(t).Regions()
	for n := range l[0].Bytes {
		at := base + uint64(n) - s.Regs[api.RSP]
		if i.Op != api.OpRet || at >= 8 {
			l[0].Bytes[n] = byte(c.Int())
		}
	}
	return made(t, l...)
}

// The chapter's example, and README's
func TestExamples(t *testing.T) {
	s := api.State{PC: 1000, CF: true}
	s.Regs[api.RAX], s.Regs[api.RSP] = top, 116
	m := made(t, api.Region{Base: 100, Bytes: make([]byte, 16), Write: true})
	next, l, e := Do(s, api.Inst{Op: api.OpAdc, D: api.RAX, S: api.RCX}, 3, m)
	want := api.State{PC: 1003, CF: true, ZF: true}
	want.Regs[api.RSP] = 116
	if next != want || e != api.OK || !Same(l, []api.Event{{Kind: api.EventStep, Addr: 1000}}) {
		t.Error(next, l, e)
	}
	next, l, e = Do(next, api.Inst{Op: api.OpPush, S: api.RSP}, 1, m)
	want.PC, want.Regs[api.RSP] = 1004, 108
	if next != want || e != api.OK || !Same(l, []api.Event{{Kind: api.EventStep, Addr: 1003}, {Kind: api.EventWrite, Addr: 108}}) {
		t.Error(next, l, e)
	}
	if v, _ := m.Load(108); v != 116 {
		t.Error(v)
	}
	next, l, e = Do(next, api.Inst{Op: api.OpJnz, Imm: -9}, 6, m)
	want.PC = 1010
	if next != want || e != api.OK || !Same(l, []api.Event{{Kind: api.EventStep, Addr: 1004}, {Kind: api.EventJump, Addr: 1010}}) {
		t.Error(next, l, e)
	}
	if at := Address(next, api.Mem{Base: api.RSP, Index: api.None, Scale: 1, Disp: -8}); at != 100 {
		t.Error(at)
	}
}
