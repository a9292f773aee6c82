package inst

import (
	"math/bits"
	"slices"
	"testing"

	"keysmith/api"
)

// machine is registers and flags (CF, OF, ZF), on which instructions are done here to see whether all that is told of them is so.
type machine struct {
	r     [16]uint64
	flags [3]uint64
}

// effect is what an instruction does beside its registers and flags.
type effect struct {
	at    uint64
	value uint64
	jumps bool
}

// outcome is what an instruction makes of a machine.
type outcome struct {
	machine
	effect
}

// stands answers what stands at an address: something that hangs on all of its bits.
func stands(at uint64) uint64 {
	return (at ^ at>>29) * 0x9e3779b97f4a7c15
}

func (s *machine) address(m api.Mem) uint64 {
	at := s.r[m.Base] + uint64(m.Disp)
	if m.Index >= 0 {
		at += s.r[m.Index] * uint64(m.Scale)
	}
	return at
}

func bit(is bool) uint64 {
	if is {
		return 1
	}
	return 0
}

// sum answers a + b + c, and sets all flags.
func (s *machine) sum(a, b, c uint64) uint64 {
	v, carry := bits.Add64(a, b, c)
	s.flags = [3]uint64{carry, (a ^ v) & (b ^ v) >> 63, bit(v == 0)}
	return v
}

// rest answers a - b - c, and sets all flags.
func (s *machine) rest(a, b, c uint64) uint64 {
	v, borrow := bits.Sub64(a, b, c)
	s.flags = [3]uint64{borrow, (a ^ b) & (a ^ v) >> 63, bit(v == 0)}
	return v
}

// logic sets the flags of and, or, xor.
func (s *machine) logic(v uint64) uint64 {
	s.flags = [3]uint64{0, 0, bit(v == 0)}
	return v
}

func (s *machine) shifted(v, last uint64) uint64 {
	s.flags[0], s.flags[2] = last&1, bit(v == 0)
	return v
}

// sumThrough adds with one flag alone.
func (s *machine) sumThrough(flag int, a, b uint64) uint64 {
	v, carry := bits.Add64(a, b, s.flags[flag])
	s.flags[flag] = carry
	return v
}

func (s *machine) do(i api.Inst) (e effect) {
	d, v, n := &s.r[i.D], s.r[i.S], uint64(i.Imm)
	switch i.Op {
	case api.OpMov:
		*d = v
	case api.OpMovImm:
		*d = n
	case api.OpLoad:
		*d = stands(s.address(i.M))
	case api.OpStore:
		e.at, e.value = s.address(i.M), v
	case api.OpLea:
		*d = s.address(i.M)
	case api.OpAdd:
		*d = s.sum(*d, v, 0)
	case api.OpAdc:
		*d = s.sum(*d, v, s.flags[0])
	case api.OpSub:
		*d = s.rest(*d, v, 0)
	case api.OpSbb:
		*d = s.rest(*d, v, s.flags[0])
	case api.OpAnd:
		*d = s.logic(*d & v)
	case api.OpOr:
		*d = s.logic(*d | v)
	case api.OpXor:
		*d = s.logic(*d ^ v)
	case api.OpCmp:
		s.rest(*d, v, 0)
	case api.OpTest:
		s.logic(*d & v)
	case api.OpAddImm:
		*d = s.sum(*d, n, 0)
	case api.OpAndImm:
		*d = s.logic(*d & n)
	case api.OpSubImm:
		*d = s.rest(*d, n, 0)
	case api.OpCmpImm:
		s.rest(*d, n, 0)
	case api.OpMulx:
		s.r[i.D], s.r[i.S] = bits.Mul64(s.r[i.T], s.r[api.RDX])
	default:
		return s.more(i)
	}
	return e
}

// more does the operations behind OpMulx.
func (s *machine) more(i api.Inst) (e effect) {
	d, v := &s.r[i.D], s.r[i.S]
	switch i.Op {
	case api.OpAdcx:
		*d = s.sumThrough(0, *d, v)
	case api.OpAdox:
		*d = s.sumThrough(1, *d, v)
	case api.OpNeg:
		*d = s.rest(0, *d, 0)
	case api.OpNot:
		*d = ^*d
	case api.OpShl:
		*d = s.shifted(*d<<i.Imm, *d>>(64-i.Imm))
	case api.OpShr:
		*d = s.shifted(*d>>i.Imm, *d>>(i.Imm-1))
	case api.OpCmovc:
		if s.flags[0] == 1 {
			*d = v
		}
	case api.OpCmovnz:
		if s.flags[2] == 0 {
			*d = v
		}
	case api.OpPush:
		s.r[api.RSP] -= 8
		e.at, e.value = s.r[api.RSP], v
	case api.OpPop:
		v = stands(s.r[api.RSP])
		s.r[api.RSP] += 8
		*d = v
	case api.OpJmp:
		e.jumps = true
	case api.OpJnz:
		e.jumps = s.flags[2] == 0
	case api.OpJc:
		e.jumps = s.flags[0] == 1
	case api.OpRet:
		e.value = stands(s.r[api.RSP])
		s.r[api.RSP] += 8
	}
	return e
}

func (s machine) after(i api.Inst) outcome {
	e := s.do(i)
	return outcome{s, e}
}

// numbers is a row of them, the same in each run of the tests.
type numbers uint64

func (n *numbers) next() uint64 {
	*n = *n*6364136223846793005 + 1442695040888963407
	return stands(uint64(*n))
}

// below answers a number from 0 to limit - 1.
func (n *numbers) below(limit int) int {
	return int(n.next() >> 8 % uint64(limit))
}

// word answers a number that often is an edge.
func (n *numbers) word() uint64 {
	switch n.below(4) {
	case 0:
		return uint64(n.below(5)) - 2
	case 1:
		return 1<<63 + uint64(n.below(5)) - 2
	}
	return n.next()
}

func (n *numbers) machine() machine {
	var s machine
	for i := range s.r {
		s.r[i] = n.word()
	}
	for i := range s.flags {
		s.flags[i] = n.next() >> 40 & 1
	}
	return s
}

// inst answers an instruction of the row's operation that may be.
func (n *numbers) inst(r row) api.Inst {
	for {
		i := api.Inst{Op: r.op}
		for _, c := range r.has {
			switch c {
			case 'D':
				i.D = n.below(16)
			case 'S':
				i.S = n.below(16)
			case 'T':
				i.T = n.below(16)
			case 'M':
				i.M = api.Mem{Base: n.below(16), Index: n.below(17) - 1, Scale: 1 << n.below(4), Disp: int64(n.below(1<<20)) - 1<<19}
			case 'B':
				i.Imm = int64(1 + n.below(63))
			default:
				i.Imm = int64(int32(n.word()))
			}
		}
		if r.may(i) {
			return i
		}
	}
}

// P5.3: what an instruction does not take does not matter; what it does not make stays.
func TestWhatIsNotToldDoesNotMatter(t *testing.T) {
	n := numbers(5)
	for _, r := range rows() {
		for range 2000 {
			i, s, other := n.inst(r), n.machine(), n.machine()
			reads, makes := Flags(i)
			for _, k := range Reads(i) {
				other.r[k] = s.r[k]
			}
			for k := range s.flags {
				if reads>>k&1 == 1 {
					other.flags[k] = s.flags[k]
				}
			}
			a, b := s.after(i), other.after(i)
			if a.effect != b.effect {
				t.Fatalf("%+v: %+v, %+v", i, a.effect, b.effect)
			}
			for k := range s.r {
				made := slices.Contains(Writes(i), k)
				if made && a.r[k] != b.r[k] || !made && (a.r[k] != s.r[k] || b.r[k] != other.r[k]) {
					t.Fatalf("%+v: register %d, made: %v, is %x, %x", i, k, made, a.r[k], b.r[k])
				}
			}
			for k := range s.flags {
				made := makes>>k&1 == 1
				if made && a.flags[k] != b.flags[k] || !made && (a.flags[k] != s.flags[k] || b.flags[k] != other.flags[k]) {
					t.Fatalf("%+v: flag %d, made: %v, is %d, %d", i, k, made, a.flags[k], b.flags[k])
				}
			}
		}
	}
}

// found is what was seen to matter, and to change, as bits.
type found struct {
	taken, made           int
	flagsTaken, flagsMade int
}

// look does an instruction with one thing changed at a time.
func (f *found) look(i api.Inst, s machine) {
	a, writes := s.after(i), Writes(i)
	for k := range s.r {
		changed := s
		changed.r[k] ^= 1<<63 + 1<<13 + 1
		b := changed.after(i)
		if !slices.Contains(writes, k) {
			// It is only handed on.
			b.r[k] = a.r[k]
		}
		f.taken |= int(bit(b != a)) << k
		f.made |= int(bit(a.r[k] != s.r[k])) << k
	}
	for k := range s.flags {
		changed := s
		changed.flags[k] ^= 1
		b := changed.after(i)
		// A flag that matters does so elsewhere, too.
		b.flags[k] = a.flags[k]
		f.flagsTaken |= int(bit(b != a)) << k
		f.flagsMade |= int(a.flags[k]^s.flags[k]) << k
	}
}

func mask(l []int) int {
	m := 0
	for _, r := range l {
		m |= 1 << r
	}
	return m
}

// P5.3: no more is told than what matters and what changes.
func TestWhatIsToldMatters(t *testing.T) {
	n := numbers(7)
	for _, r := range rows() {
		i, f := r.apart(), found{}
		for range 2000 {
			f.look(i, n.machine())
		}
		reads, makes := Flags(i)
		want := found{mask(Reads(i)), mask(Writes(i)), reads, makes}
		if f != want {
			t.Errorf("%s: %+v, not %+v", r.name, f, want)
		}
	}
}
