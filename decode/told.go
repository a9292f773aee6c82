package decode

import "keysmith/api"

// ofDigit answers the operation that a byte and a digit tell; 0, if none is told.
func ofDigit(b byte, digit int) int {
	switch int(b)<<4 | digit {
	case 0x810:
		return api.OpAddImm
	case 0x814:
		return api.OpAndImm
	case 0x815:
		return api.OpSubImm
	case 0x817:
		return api.OpCmpImm
	case 0xc14:
		return api.OpShl
	case 0xc15:
		return api.OpShr
	case 0xf72:
		return api.OpNot
	case 0xf73:
		return api.OpNeg
	}
	return 0
}

// ofRegisters answers the operation on two registers that a byte tells; 0, if none is told.
func ofRegisters(b byte) int {
	switch b {
	case 0x01:
		return api.OpAdd
	case 0x09:
		return api.OpOr
	case 0x11:
		return api.OpAdc
	case 0x19:
		return api.OpSbb
	case 0x21:
		return api.OpAnd
	case 0x29:
		return api.OpSub
	case 0x31:
		return api.OpXor
	case 0x39:
		return api.OpCmp
	case 0x85:
		return api.OpTest
	case 0x89:
		return api.OpMov
	}
	return 0
}

// ofPlace answers the instruction on a register and a place that a byte tells.
func ofPlace(b byte, r int, m api.Mem) api.Inst {
	switch b {
	case 0x89:
		return api.Inst{Op: api.OpStore, S: r, M: m}
	case 0x8b:
		return api.Inst{Op: api.OpLoad, D: r, M: m}
	case 0x8d:
		return api.Inst{Op: api.OpLea, D: r, M: m}
	}
	return api.Inst{}
}
