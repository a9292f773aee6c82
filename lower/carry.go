package lower

import "keysmith/api"

// carrying answers the operation that takes CF, if anything may be carried in; else the plain one.
func (e *emitter) carrying(o api.LimbOp, plain, carrying int) int {
	if e.known.even.has(o.C) {
		return plain
	}
	return carrying
}

// carryIn brings the lowest bit of C into CF, unless it is there.
func (e *emitter) carryIn(at int, o api.LimbOp) *emitter {
	if e.known.even.has(o.C) || e.known.found[at] {
		return e
	}
	r := api.RAX
	if e.known.spent(at) {
		r = e.own(o.C, api.RAX)
	}
	return e.take(r, o.C).number(api.OpShr, r, 1)
}

// carryOut brings CF into E, if anything but CF is asked for it.
func (e *emitter) carryOut(at int, o api.LimbOp) *emitter {
	r := e.own(o.E, api.RAX)
	switch {
	case e.known.handed[at] || !e.known.needed[at+1].has(o.E):
		return e
	case e.emptied(at, o):
		return e.two(api.OpAdc, r, r)
	}
	return e.two(api.OpSbb, r, r).one(api.OpNeg, r).keep(o.E, r)
}

// emptied answers whether E's register is 0 still, since C was shifted out of it.
func (e *emitter) emptied(at int, o api.LimbOp) bool {
	kept := e.frame.register(o.E) != api.None
	return kept && o.E == o.C && e.known.bits.has(o.C) && e.known.spent(at) && !e.known.found[at]
}
