package decode

import "keysmith/api"

// rex is the byte that tells the fourth bits of an instruction's registers.
type rex byte

func (r rex) middle() int { return int(r>>2&1) << 3 }
func (r rex) index() int  { return int(r>>1&1) << 3 }
func (r rex) last() int   { return int(r&1) << 3 }

// operands is what RM and rex tell: the register (or the digit) in the middle, and what stands last.
type operands struct {
	rex    rex
	middle int
	last   operand
}

// operand is a register or a place, of which its bytes told the registers' lower bits.
type operand interface {
	wide(r rex) operand
}

type register int

type place api.Mem

func (x register) wide(r rex) operand {
	return x | register(r.last())
}

func (p place) wide(r rex) operand {
	p.Base |= r.last()
	p.Index |= r.index()
	if p.Index == scaleFollows {
		p.Index = api.None
	}
	return p
}

// intoMiddle answers an instruction of two registers that makes the one in the middle.
func (o operands) intoMiddle(op int) api.Inst {
	switch s := o.last.(type) {
	case register:
		return api.Inst{Op: op, D: o.middle, S: int(s)}
	default:
		return api.Inst{}
	}
}
