package step

import (
	"math/bits"

	"keysmith/api"
)

// moving tells what becomes of a state, whose PC is behind the instruction, when v has been read; nil of operations that reckon with D and one word beside it.
func moving(op int) func(s api.State, i api.Inst, v uint64) api.State {
	switch op {
	case api.OpLoad:
		return func(s api.State, i api.Inst, v uint64) api.State {
			s.Regs[i.D] = v
			return s
		}
	case api.OpStore:
		return func(s api.State, i api.Inst, v uint64) api.State { return s }
	case api.OpLea:
		return func(s api.State, i api.Inst, v uint64) api.State {
			s.Regs[i.D] = Address(s, i.M)
			return s
		}
	case api.OpMulx:
		return func(s api.State, i api.Inst, v uint64) api.State {
			s.Regs[i.D], s.Regs[i.S] = bits.Mul64(s.Regs[i.T], s.Regs[api.RDX])
			return s
		}
	case api.OpPush:
		return func(s api.State, i api.Inst, v uint64) api.State {
			s.Regs[api.RSP] -= wordBytes
			return s
		}
	case api.OpPop:
		return func(s api.State, i api.Inst, v uint64) api.State {
			s.Regs[api.RSP] += wordBytes
			// D may be RSP itself, so it comes last.
			s.Regs[i.D] = v
			return s
		}
	case api.OpJmp:
		return func(s api.State, i api.Inst, v uint64) api.State { return jump(s, i, true) }
	case api.OpJnz:
		return func(s api.State, i api.Inst, v uint64) api.State { return jump(s, i, !s.ZF) }
	case api.OpJc:
		return func(s api.State, i api.Inst, v uint64) api.State { return jump(s, i, s.CF) }
	case api.OpRet:
		return func(s api.State, i api.Inst, v uint64) api.State {
			s.Regs[api.RSP] += wordBytes
			s.PC = v
			return s
		}
	}
	return nil
}

func jump(s api.State, i api.Inst, taken bool) api.State {
	if taken {
		s.PC += uint64(i.Imm)
	}
	return s
}
