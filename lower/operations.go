package lower

import "keysmith/api"

// program puts all code: what is to be kept is saved first; at last nothing is left of what was reckoned.
func (e *emitter) program() *emitter {
	e.enter()
	for at, o := range e.known.ops {
		e.operation(at, o)
	}
	return e.leave()
}

// operation puts the code of the operation at a place.
func (e *emitter) operation(at int, o api.LimbOp) *emitter {
	switch o.Kind {
	case api.LimbConst:
		return e.constant(o)
	case api.LimbMove:
		return e.keep(o.D, e.held(o.A, e.own(o.D, api.RAX)))
	case api.LimbAdd:
		return e.either(api.OpAdd, o)
	case api.LimbSub:
		return e.ordered(api.OpSub, o)
	case api.LimbAnd:
		return e.either(api.OpAnd, o)
	case api.LimbOr:
		return e.either(api.OpOr, o)
	case api.LimbXor:
		return e.either(api.OpXor, o)
	case api.LimbShl:
		return e.shift(api.OpShl, o)
	case api.LimbShr:
		return e.shift(api.OpShr, o)
	case api.LimbMul:
		return e.product(o)
	case api.LimbAdc:
		return e.carryIn(at, o).either(e.carrying(o, api.OpAdd, api.OpAdc), o).carryOut(at, o)
	case api.LimbSbb:
		return e.carryIn(at, o).ordered(e.carrying(o, api.OpSub, api.OpSbb), o).carryOut(at, o)
	case api.LimbSel:
		return e.choice(o)
	case api.LimbLoad:
		d := e.own(o.D, api.RAX)
		return e.from(api.OpLoad, d, e.place(o)).keep(o.D, d)
	case api.LimbStore:
		m := e.place(o)
		return e.store(m, e.held(o.B, api.RDX))
	case api.LimbLoop:
		return e.open(o).label(labelOf(at))
	}
	// LimbEnd is the one that is left.
	return e.close(e.known.ends[at])
}

func (e *emitter) constant(o api.LimbOp) *emitter {
	d := e.own(o.D, api.RAX)
	if o.Imm == 0 {
		return e.zero(d).keep(o.D, d)
	}
	return e.number(api.OpMovImm, d, int64(o.Imm)).keep(o.D, d)
}

// either puts an operation for which it does not matter which of A and B is the first.
func (e *emitter) either(op int, o api.LimbOp) *emitter {
	if o.D == o.B {
		o.A, o.B = o.B, o.A
	}
	return e.ordered(op, o)
}

// ordered puts an operation of A and then B. Where B stands, D can't be reckoned: A comes there first.
func (e *emitter) ordered(op int, o api.LimbOp) *emitter {
	d := e.own(o.D, api.RAX)
	if o.D == o.B && o.D != o.A {
		d = api.RAX
	}
	return e.take(d, o.A).with(op, d, o.B).keep(o.D, d)
}

func (e *emitter) shift(op int, o api.LimbOp) *emitter {
	d := e.own(o.D, api.RAX)
	return e.take(d, o.A).number(op, d, int64(o.Imm)).keep(o.D, d)
}

// product puts a product of RDX, which has A, and B. Both are read ahead of what is made, so it may come into any of these.
func (e *emitter) product(o api.LimbOp) *emitter {
	high, low := e.own(o.D, api.RAX), e.own(o.E, api.RDX)
	return e.take(api.RDX, o.A).times(high, low, o.B).keep(o.D, high).keep(o.E, low)
}

// choice puts B, and A in its stead, if C is odd. Where A stands, B can't come.
func (e *emitter) choice(o api.LimbOp) *emitter {
	d := e.own(o.D, api.RAX)
	if o.D == o.A {
		d = api.RAX
	}
	if e.known.bits.has(o.C) {
		c := e.held(o.C, api.RAX)
		return e.two(api.OpTest, c, c).take(d, o.B).with(api.OpCmovnz, d, o.A).keep(o.D, d)
	}
	return e.take(api.RAX, o.C).number(api.OpShr, api.RAX, 1).take(d, o.B).with(api.OpCmovc, d, o.A).keep(o.D, d)
}
