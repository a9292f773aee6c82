package decode

import "keysmith/api"

// inst reads the only instruction that may stand here. Whether it does is not looked at: what can't be one has no operation, or is put otherwise.
func (c *cursor) inst() api.Inst {
	var first byte
	switch c.byte(&first); {
	case first&0xf8 == 0x48:
		return c.behindRex(rex(first))
	case first&0xf0 == 0x50:
		return short(first, 0)
	}
	switch first {
	case 0x0f:
		return c.jumpIf()
	case 0x41:
		var second byte
		c.byte(&second)
		return short(second, api.R8)
	case 0x66:
		return c.oneFlag(api.OpAdcx)
	case 0xc3:
		return api.Inst{Op: api.OpRet}
	case 0xc4:
		return c.product()
	case 0xe9:
		return c.jump(api.OpJmp)
	case 0xf3:
		return c.oneFlag(api.OpAdox)
	}
	return api.Inst{}
}

// short answers a push or a pop by its byte; above is the register's fourth bit.
func short(b byte, above int) api.Inst {
	r := int(b&7) | above
	if b&8 == 0 {
		return api.Inst{Op: api.OpPush, S: r}
	}
	return api.Inst{Op: api.OpPop, D: r}
}

func (c *cursor) jump(op int) api.Inst {
	i := api.Inst{Op: op}
	c.number(&i.Imm, 4)
	return i
}

func (c *cursor) jumpIf() api.Inst {
	var b byte
	switch c.byte(&b); b {
	case 0x82:
		return c.jump(api.OpJc)
	case 0x85:
		return c.jump(api.OpJnz)
	}
	return api.Inst{}
}

func (c *cursor) oneFlag(op int) api.Inst {
	var o operands
	c.rex(&o).skip(3).operands(&o)
	return o.intoMiddle(op)
}

func (c *cursor) product() api.Inst {
	var b, other byte
	var o operands
	c.byte(&b).byte(&other).skip(1)
	// The upper bits of b are the lower ones of rex, the other way round.
	o.rex = rex(^b >> 5)
	c.operands(&o)
	i := o.intoMiddle(api.OpMulx)
	i.S, i.T = api.R15-int(other>>3&15), i.S
	return i
}

func (c *cursor) behindRex(r rex) api.Inst {
	var b byte
	switch c.byte(&b); {
	case b&0xf8 == 0xb8:
		return c.wholeNumber(int(b&7) | r.last())
	case b == 0x0f:
		return c.choice(r)
	case b == 0x81:
		return c.digit(b, r, 4)
	case b == 0xc1:
		return c.digit(b, r, 1)
	case b == 0xf7:
		return c.digit(b, r, 0)
	}
	return c.two(b, r)
}

func (c *cursor) wholeNumber(d int) api.Inst {
	i := api.Inst{Op: api.OpMovImm, D: d}
	c.number(&i.Imm, 8)
	return i
}

func (c *cursor) choice(r rex) api.Inst {
	var b byte
	o := operands{rex: r}
	switch c.byte(&b).operands(&o); b {
	case 0x42:
		return o.intoMiddle(api.OpCmovc)
	case 0x45:
		return o.intoMiddle(api.OpCmovnz)
	}
	return api.Inst{}
}

// digit reads an instruction that is told by a byte and a digit; its number has so many bytes.
func (c *cursor) digit(b byte, r rex, size int) api.Inst {
	var n int64
	o := operands{rex: r}
	c.operands(&o).number(&n, size)
	switch d := o.last.(type) {
	case register:
		return api.Inst{Op: ofDigit(b, o.middle), D: int(d), Imm: n}
	default:
		return api.Inst{}
	}
}

// two reads an instruction that is told by a byte, and by whether a register or a place stands last.
func (c *cursor) two(b byte, r rex) api.Inst {
	var i api.Inst
	o := operands{rex: r}
	c.operands(&o)
	switch x := o.last.(type) {
	case register:
		i = api.Inst{Op: ofRegisters(b), D: int(x), S: o.middle}
	case place:
		i = ofPlace(b, o.middle, api.Mem(x))
	}
	return i
}
