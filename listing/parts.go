package listing

import "keysmith/api"

// part is what of an instruction an operand tells.
type part int

const (
	partD part = iota
	partS
	partT
	partPlace
	partNumber
	partDistance // a jump's number
)

// partsOf answers what an operation's operands tell, in their order.
func partsOf(op int) []part {
	switch op {
	case api.OpMovImm, api.OpAddImm, api.OpAndImm, api.OpSubImm, api.OpCmpImm, api.OpShl, api.OpShr:
		return []part{partD, partNumber}
	case api.OpLoad, api.OpLea:
		return []part{partD, partPlace}
	case api.OpStore:
		return []part{partPlace, partS}
	case api.OpMulx:
		return []part{partD, partS, partT}
	case api.OpNeg, api.OpNot, api.OpPop:
		return []part{partD}
	case api.OpPush:
		return []part{partS}
	case api.OpJmp, api.OpJnz, api.OpJc:
		return []part{partDistance}
	case api.OpRet:
		return nil
	}
	return []part{partD, partS}
}

// of answers the part of the instruction as an operand.
func (p part) of(i api.Inst) operand {
	switch p {
	case partD:
		return register(i.D)
	case partS:
		return register(i.S)
	case partT:
		return register(i.T)
	case partPlace:
		return place(i.M)
	case partDistance:
		return distance(i.Imm)
	}
	return number(i.Imm)
}

// put makes the operand this part of the instruction, if it is of the kind that the part asks for.
func (p part) put(i *api.Inst, o operand) bool {
	switch x := o.(type) {
	case register:
		return p.putRegister(i, int(x))
	case place:
		i.M = api.Mem(x)
		return p == partPlace
	case number:
		// -5 may be either.
		i.Imm = int64(x)
		return p == partNumber || p == partDistance
	}
	return false
}

func (p part) putRegister(i *api.Inst, r int) bool {
	switch p {
	case partD:
		i.D = r
	case partS:
		i.S = r
	case partT:
		i.T = r
	default:
		return false
	}
	return true
}
