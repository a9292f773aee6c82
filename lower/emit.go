package lower

import (
	"keysmith/api"
	"keysmith/layout"
)

// emitter puts lines behind one another, and counts the steps of a run of them. Its methods answer itself, so that they chain.
type emitter struct {
	frame   frame
	known   known
	offsets []int
	// behind is by how much what stands for a virtual register is less than what that one has: a loop counts up to 0, so its end needs no comparing.
	behind [api.MaxRegs]uint64
	lines  []api.Line
	steps  []count // of the program, then of each loop that is open
}

func emitterOf(p api.LimbProg, places []int) *emitter {
	return &emitter{frame: frameOf(places), known: knownOf(p), offsets: offsets(p.Bufs), steps: make([]count, 1)}
}

// code answers the code of all lines.
func (e *emitter) code() (api.Code, api.Errno) {
	bytes, err := layout.Bytes(e.lines)
	if err != api.OK {
		return api.Code{}, err
	}
	return api.Code{Bytes: bytes, Stack: e.frame.size(), Steps: int(e.steps[0])}, api.OK
}

// line puts a line; an instruction is one step more each time that the innermost open loop goes round.
func (e *emitter) line(l api.Line) *emitter {
	e.lines = append(e.lines, l)
	if l.Label == 0 {
		e.count(1)
	}
	return e
}

func (e *emitter) count(c count) *emitter {
	last := len(e.steps) - 1
	e.steps[last] = e.steps[last].plus(c)
	return e
}

func (e *emitter) put(i api.Inst) *emitter {
	return e.line(api.Line{Inst: i})
}

func (e *emitter) label(n int) *emitter {
	return e.line(api.Line{Label: n})
}

func (e *emitter) jump(op, label int) *emitter {
	return e.line(api.Line{Inst: api.Inst{Op: op}, To: label})
}

func (e *emitter) one(op, d int) *emitter {
	return e.put(api.Inst{Op: op, D: d})
}

func (e *emitter) two(op, d, s int) *emitter {
	return e.put(api.Inst{Op: op, D: d, S: s})
}

func (e *emitter) number(op, d int, n int64) *emitter {
	return e.put(api.Inst{Op: op, D: d, Imm: n})
}

func (e *emitter) from(op, d int, m api.Mem) *emitter {
	return e.put(api.Inst{Op: op, D: d, M: m})
}

func (e *emitter) store(m api.Mem, s int) *emitter {
	return e.put(api.Inst{Op: api.OpStore, S: s, M: m})
}

func (e *emitter) zero(d int) *emitter {
	return e.two(api.OpXor, d, d)
}

// own answers the register that a virtual one is kept in; of one that waits in a slot, the one at hand.
func (e *emitter) own(v, hand int) int {
	if r := e.frame.register(v); r != api.None {
		return r
	}
	return hand
}

// stands answers the register in which stands what stands for a virtual one: its own, or the one at hand.
func (e *emitter) stands(v, hand int) int {
	if r := e.frame.register(v); r != api.None {
		return r
	}
	e.from(api.OpLoad, hand, e.frame.slot(v))
	return hand
}

// held answers the register that has what a virtual one has: its own, or the one at hand. No flag changes.
func (e *emitter) held(v, hand int) int {
	r := e.stands(v, hand)
	if e.behind[v] == 0 {
		return r
	}
	e.from(api.OpLea, hand, beside(r, int64(e.behind[v])))
	return hand
}

// take brings what a virtual register has into a register. No flag changes.
func (e *emitter) take(r, v int) *emitter {
	return e.move(r, e.held(v, r))
}

func (e *emitter) move(d, s int) *emitter {
	if d == s {
		return e
	}
	return e.two(api.OpMov, d, s)
}

// keep brings what a register has to where a virtual one is kept. No flag changes.
func (e *emitter) keep(v, r int) *emitter {
	own := e.frame.register(v)
	if own == api.None {
		return e.store(e.frame.slot(v), r)
	}
	return e.move(own, r)
}

// with puts an operation of what a register and a virtual one have.
func (e *emitter) with(op, d, v int) *emitter {
	return e.two(op, d, e.held(v, api.RDX))
}

// times puts a product of what RDX and a virtual register have.
func (e *emitter) times(high, low, v int) *emitter {
	return e.put(api.Inst{Op: api.OpMulx, D: high, S: low, T: e.held(v, api.RAX)})
}
