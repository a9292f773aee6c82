package step

import (
	"encoding/binary"
	"math/big"

	"keysmith/api"
)

// model is a second way to say what an instruction does: by great numbers, and bytes of a single region.
type model struct {
	s     api.State
	base  uint64
	bytes []byte
	write bool
	seen  []api.Event
}

var round = new(big.Int).Lsh(big.NewInt(1), 64)

func natural(v uint64) *big.Int { return new(big.Int).SetUint64(v) }

func signed(v uint64) *big.Int { return big.NewInt(int64(v)) }

func one(is bool) *big.Int {
	if is {
		return big.NewInt(1)
	}
	return new(big.Int)
}

// total answers a + c (b + carry) by great numbers (c is 1 or -1): the word, whether it went round, whether it is wrong with signs.
func total(a, b uint64, c int64, carry bool) (v uint64, out, wrong bool) {
	of := func(a, b *big.Int) *big.Int {
		b = new(big.Int).Add(b, one(carry))
		return b.Mul(b, big.NewInt(c)).Add(b, a)
	}
	n := of(natural(a), natural(b))
	v = new(big.Int).Mod(n, round).Uint64()
	return v, n.Sign() < 0 || n.Cmp(round) >= 0, !of(signed(a), signed(b)).IsInt64()
}

func (m *model) address(p api.Mem) uint64 {
	n := natural(m.s.Regs[p.Base])
	if p.Index != api.None {
		n.Add(n, new(big.Int).Mul(natural(m.s.Regs[p.Index]), big.NewInt(int64(p.Scale))))
	}
	n.Add(n, big.NewInt(p.Disp))
	return n.Mod(n, round).Uint64()
}

func (m *model) see(kind int, at uint64) {
	m.seen = append(m.seen, api.Event{Kind: kind, Addr: at})
}

// room answers eight bytes at an address, if all of them are there.
func (m *model) room(at uint64) []byte {
	for n := 0; n+8 <= len(m.bytes); n++ {
		if m.base+uint64(n) == at {
			return m.bytes[n : n+8]
		}
	}
	return nil
}

func (m *model) load(at uint64, to *uint64) bool {
	b := m.room(at)
	if b == nil {
		return false
	}
	*to = binary.LittleEndian.Uint64(b)
	m.see(api.EventRead, at)
	return true
}

func (m *model) store(at, v uint64) bool {
	b := m.room(at)
	if b == nil || !m.write {
		return false
	}
	binary.LittleEndian.PutUint64(b, v)
	m.see(api.EventWrite, at)
	return true
}

func (m *model) plus(a, b uint64, carry bool) (v uint64) {
	v, m.s.CF, m.s.OF = total(a, b, 1, carry)
	m.s.ZF = v == 0
	return v
}

func (m *model) less(a, b uint64, borrow bool) (v uint64) {
	v, m.s.CF, m.s.OF = total(a, b, -1, borrow)
	m.s.ZF = v == 0
	return v
}

func (m *model) bits(v uint64) uint64 {
	m.s.CF, m.s.OF, m.s.ZF = false, false, v == 0
	return v
}

func (m *model) shift(n *big.Int, v uint64, last uint) {
	m.s.CF, m.s.ZF = n.Bit(int(last)) == 1, v == 0
}

func (m *model) jump(taken bool, to int64) {
	if taken {
		n := natural(m.s.PC)
		m.s.PC = n.Add(n, big.NewInt(to)).Mod(n, round).Uint64()
	}
	m.see(api.EventJump, m.s.PC)
}

// do does an instruction that may be; with an error it answers false.
func (m *model) do(i api.Inst, size int) bool {
	m.see(api.EventStep, m.s.PC)
	m.s.PC += uint64(size)
	r, was := &m.s.Regs, m.s.Regs
	d, s, n := was[i.D], was[i.S], uint64(i.Imm)
	switch i.Op {
	case api.OpMov:
		r[i.D] = s
	case api.OpMovImm:
		r[i.D] = n
	case api.OpLoad:
		return m.load(m.address(i.M), &r[i.D])
	case api.OpStore:
		return m.store(m.address(i.M), s)
	case api.OpLea:
		r[i.D] = m.address(i.M)
	case api.OpAdd:
		r[i.D] = m.plus(d, s, false)
	case api.OpAdc:
		r[i.D] = m.plus(d, s, m.s.CF)
	case api.OpSub:
		r[i.D] = m.less(d, s, false)
	case api.OpSbb:
		r[i.D] = m.less(d, s, m.s.CF)
	case api.OpAnd:
		r[i.D] = m.bits(d & s)
	case api.OpOr:
		r[i.D] = m.bits(d | s)
	case api.OpXor:
		r[i.D] = m.bits(d ^ s)
	case api.OpCmp:
		m.less(d, s, false)
	case api.OpTest:
		m.bits(d & s)
	case api.OpAddImm:
		r[i.D] = m.plus(d, n, false)
	case api.OpAndImm:
		r[i.D] = m.bits(d & n)
	case api.OpSubImm:
		r[i.D] = m.less(d, n, false)
	case api.OpCmpImm:
		m.less(d, n, false)
	case api.OpMulx:
		p := new(big.Int).Mul(natural(was[i.T]), natural(was[2]))
		r[i.D], r[i.S] = new(big.Int).Rsh(p, 64).Uint64(), new(big.Int).Mod(p, round).Uint64()
	case api.OpAdcx:
		r[i.D], m.s.CF, _ = total(d, s, 1, m.s.CF)
	case api.OpAdox:
		r[i.D], m.s.OF, _ = total(d, s, 1, m.s.OF)
	case api.OpNeg:
		r[i.D] = m.less(0, d, false)
	case api.OpNot:
		r[i.D] = 1<<64 - 1 - d
	case api.OpShl:
		p := new(big.Int).Lsh(natural(d), uint(n))
		r[i.D] = new(big.Int).Mod(p, round).Uint64()
		m.shift(p, r[i.D], 64)
	case api.OpShr:
		p := natural(d)
		r[i.D] = new(big.Int).Rsh(p, uint(n)).Uint64()
		m.shift(p, r[i.D], uint(n)-1)
	case api.OpCmovc:
		if m.s.CF {
			r[i.D] = s
		}
	case api.OpCmovnz:
		if !m.s.ZF {
			r[i.D] = s
		}
	case api.OpPush:
		r[4] = was[4] - 8
		return m.store(was[4]-8, s)
	case api.OpPop:
		r[4] = was[4] + 8
		return m.load(was[4], &r[i.D])
	case api.OpJmp:
		m.jump(true, i.Imm)
	case api.OpJnz:
		m.jump(!m.s.ZF, i.Imm)
	case api.OpJc:
		m.jump(m.s.CF, i.Imm)
	case api.OpRet:
		r[4] = was[4] + 8
		if !m.load(was[4], &m.s.PC) {
			return false
		}
		m.see(api.EventJump, m.s.PC)
	}
	return true
}
