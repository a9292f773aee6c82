package lower

import "keysmith/api"

// labelOf answers the label of the loop at a place; labels are above 0.
func labelOf(at int) int {
	return at + 1
}

// open begins a loop: what counts it stands as far below 0 as it has to go round.
func (e *emitter) open(o api.LimbOp) *emitter {
	r := e.own(o.D, api.RAX)
	e.number(api.OpMovImm, r, -int64(o.Imm)).keep(o.D, r)
	e.behind[o.D] = o.Imm
	e.steps = append(e.steps, 0)
	return e
}

// close ends the loop at a place.
func (e *emitter) close(at int) *emitter {
	o := e.known.ops[at]
	r := e.stands(o.D, api.RAX)
	e.number(api.OpAddImm, r, 1).keep(o.D, r).jump(api.OpJnz, labelOf(at))
	e.behind[o.D] = 0
	last := len(e.steps) - 1
	round := e.steps[last]
	e.steps = e.steps[:last]
	return e.count(round.times(o.Imm))
}

// place answers the place in memory of a load's or store's limb. RAX may be the index then, RDX is at hand again.
func (e *emitter) place(o api.LimbOp) api.Mem {
	base := int64(e.offsets[o.Buf])
	if o.A < 0 {
		return beside(api.RDI, base+int64(o.Imm)*limbBytes)
	}
	index := e.stands(o.A, api.RAX)
	far := int64(o.Imm + e.behind[o.A])
	// What goes round in a limb's place does so in its bytes' address, too.
	if disp := base + far*limbBytes; disp == int64(int32(disp)) {
		return api.Mem{Base: api.RDI, Index: index, Scale: limbBytes, Disp: disp}
	}
	e.number(api.OpMovImm, api.RDX, far).from(api.OpLea, api.RAX, api.Mem{Base: index, Index: api.RDX, Scale: 1})
	return api.Mem{Base: api.RDI, Index: api.RAX, Scale: limbBytes, Disp: base}
}

// enter makes room on the stack, and saves what must stay.
func (e *emitter) enter() *emitter {
	e.stack(api.OpSubImm)
	for k, r := range e.frame.saved {
		e.store(e.frame.save(k), r)
	}
	return e
}

// leave brings back what must stay, wipes all else, and goes home.
func (e *emitter) leave() *emitter {
	for k, r := range e.frame.saved {
		e.from(api.OpLoad, r, e.frame.save(k))
	}
	e.zero(api.RAX).zero(api.RDX)
	for _, r := range loose {
		e.zero(r)
	}
	for k := range e.frame.words() {
		e.store(e.frame.word(k), api.RAX)
	}
	return e.stack(api.OpAddImm).put(api.Inst{Op: api.OpRet})
}

// stack moves the stack's end by the frame's size.
func (e *emitter) stack(op int) *emitter {
	if e.frame.words() == 0 {
		return e
	}
	return e.number(op, api.RSP, int64(e.frame.size()))
}
