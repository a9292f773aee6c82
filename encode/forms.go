package encode

import "keysmith/api"

// form puts an instruction's bytes behind those that are there.
type form func(code, api.Inst) code

// forms answers each operation's form.
func forms() map[int]form {
	return map[int]form{
		api.OpMov:    code.two,
		api.OpMovImm: code.wholeNumber,
		api.OpLoad:   code.fromPlace,
		api.OpStore:  code.toPlace,
		api.OpLea:    code.fromPlace,
		api.OpAdd:    code.two,
		api.OpAdc:    code.two,
		api.OpSub:    code.two,
		api.OpSbb:    code.two,
		api.OpAnd:    code.two,
		api.OpOr:     code.two,
		api.OpXor:    code.two,
		api.OpCmp:    code.two,
		api.OpTest:   code.two,
		api.OpAddImm: code.withNumber,
		api.OpAndImm: code.withNumber,
		api.OpSubImm: code.withNumber,
		api.OpCmpImm: code.withNumber,
		api.OpMulx:   code.product,
		api.OpAdcx:   code.oneFlag,
		api.OpAdox:   code.oneFlag,
		api.OpNeg:    code.one,
		api.OpNot:    code.one,
		api.OpShl:    code.shift,
		api.OpShr:    code.shift,
		api.OpCmovc:  code.choice,
		api.OpCmovnz: code.choice,
		api.OpPush:   code.push,
		api.OpPop:    code.pop,
		api.OpJmp:    code.jump,
		api.OpJnz:    code.jumpIf,
		api.OpJc:     code.jumpIf,
		api.OpRet:    code.back,
	}
}

// own is the byte, or the digit, by which an operation's bytes are told apart from those of its form's others.
var own = [api.OpRet + 1]byte{
	api.OpMov:    0x89,
	api.OpMovImm: 0xb8,
	api.OpLoad:   0x8b,
	api.OpStore:  0x89,
	api.OpLea:    0x8d,
	api.OpAdd:    0x01,
	api.OpAdc:    0x11,
	api.OpSub:    0x29,
	api.OpSbb:    0x19,
	api.OpAnd:    0x21,
	api.OpOr:     0x09,
	api.OpXor:    0x31,
	api.OpCmp:    0x39,
	api.OpTest:   0x85,
	api.OpAddImm: 0,
	api.OpAndImm: 4,
	api.OpSubImm: 5,
	api.OpCmpImm: 7,
	api.OpMulx:   0xf6,
	api.OpAdcx:   0x66,
	api.OpAdox:   0xf3,
	api.OpNeg:    3,
	api.OpNot:    2,
	api.OpShl:    4,
	api.OpShr:    5,
	api.OpCmovc:  0x42,
	api.OpCmovnz: 0x45,
	api.OpPush:   0x50,
	api.OpPop:    0x58,
	api.OpJmp:    0xe9,
	api.OpJnz:    0x85,
	api.OpJc:     0x82,
	api.OpRet:    0xc3,
}

func (c code) two(i api.Inst) code {
	return c.put(rex(i.S, api.None, i.D), own[i.Op]).register(i.S, i.D)
}

func (c code) wholeNumber(i api.Inst) code {
	return c.put(rex(0, api.None, i.D), own[i.Op]|low(i.D)).number(i.Imm, 8)
}

func (c code) fromPlace(i api.Inst) code {
	return c.put(rex(i.D, i.M.Index, i.M.Base), own[i.Op]).place(i.D, i.M)
}

func (c code) toPlace(i api.Inst) code {
	return c.put(rex(i.S, i.M.Index, i.M.Base), own[i.Op]).place(i.S, i.M)
}

func (c code) withNumber(i api.Inst) code {
	return c.digit(0x81, i).number(i.Imm, 4)
}

// product tells its registers without rex: their fourth bits stand the other way round.
func (c code) product(i api.Inst) code {
	first := 0x42 | (1-fromR8(i.D))<<7 | (1-fromR8(i.T))<<5
	second := 0x83 | byte(api.R15-i.S)<<3
	return c.put(0xc4, first, second, own[i.Op]).register(i.D, i.T)
}

func (c code) oneFlag(i api.Inst) code {
	return c.put(own[i.Op], rex(i.D, api.None, i.S), 0x0f, 0x38, 0xf6).register(i.D, i.S)
}

func (c code) one(i api.Inst) code {
	return c.digit(0xf7, i)
}

func (c code) shift(i api.Inst) code {
	return c.digit(0xc1, i).number(i.Imm, 1)
}

// digit puts what tells the operation by a digit, where the other register would stand.
func (c code) digit(first byte, i api.Inst) code {
	return c.put(rex(0, api.None, i.D), first).register(int(own[i.Op]), i.D)
}

func (c code) choice(i api.Inst) code {
	return c.put(rex(i.D, api.None, i.S), 0x0f, own[i.Op]).register(i.D, i.S)
}

func (c code) push(i api.Inst) code {
	return c.short(i.Op, i.S)
}

func (c code) pop(i api.Inst) code {
	return c.short(i.Op, i.D)
}

func (c code) short(op, r int) code {
	if fromR8(r) == 1 {
		c = c.put(0x41)
	}
	return c.put(own[op] | low(r))
}

func (c code) jump(i api.Inst) code {
	return c.put(own[i.Op]).number(i.Imm, 4)
}

func (c code) jumpIf(i api.Inst) code {
	return c.put(0x0f, own[i.Op]).number(i.Imm, 4)
}

func (c code) back(i api.Inst) code {
	return c.put(own[i.Op])
}
