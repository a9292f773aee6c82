package limb

import (
	"slices"

	"keysmith/api"
	"keysmith/word"
)

// maxRun is how many events a run has at most.
const maxRun = 1 << 24

// run is a run under way: the registers, the buffers' rows, what was seen so far.
type run struct {
	ops  []api.LimbOp
	ends []int
	regs [api.MaxRegs]uint64
	rows [][]uint64
	seen []api.LimbEvent
}

// fit answers whether rows may be handed in for these buffers.
func fit(bufs []api.Buf, handed [][]uint64) bool {
	return slices.EqualFunc(bufs, handed, func(b api.Buf, row []uint64) bool {
		if b.Kind == api.BufTmp {
			return len(row) == 0
		}
		return len(row) == b.Size
	})
}

// rows answers the buffers' rows, as they are at first.
func rows(bufs []api.Buf, handed [][]uint64) [][]uint64 {
	l := make([][]uint64, len(bufs))
	for i, b := range bufs {
		l[i] = make([]uint64, b.Size)
		copy(l[i], handed[i])
	}
	return l
}

// do does all operations, or those ahead of a fault; whether there was none.
func (r *run) do() bool {
	at := 0
again:
	for ; at < len(r.ops); at++ {
		o := &r.ops[at]
		switch o.Kind {
		case api.LimbLoop:
			r.turn(at, 0)
		case api.LimbEnd:
			// Nothing in a loop makes its register, so that has still the number of times done, less 1.
			loop := r.ends[at]
			if times := r.regs[r.ops[loop].D] + 1; times < r.ops[loop].Imm {
				r.turn(loop, times)
				at = loop + 1
				goto again
			}
		case api.LimbLoad, api.LimbStore:
			if !r.touch(at) {
				return false
			}
		default:
			r.reckon(o)
			r.see(at, none)
		}
	}
	return true
}

// see puts an event behind those seen so far.
func (r *run) see(at, place int) {
	r.seen = append(r.seen, api.LimbEvent{Op: at, At: place})
}

// turn begins what stands in a loop, done so many times so far.
func (r *run) turn(loop int, times uint64) {
	r.regs[r.ops[loop].D] = times
	r.see(loop, none)
}

// touch does a load or store, if there is such a limb.
func (r *run) touch(at int) bool {
	o := &r.ops[at]
	row := r.rows[o.Buf]
	place := o.Imm + r.held(o.A)
	if place >= uint64(len(row)) {
		return false
	}
	if o.Kind == api.LimbStore {
		row[place] = r.regs[o.B]
	} else {
		r.regs[o.D] = row[place]
	}
	r.see(at, int(place))
	return true
}

// reckon does an operation over registers alone.
func (r *run) reckon(o *api.LimbOp) {
	d, e := results(o, r.held(o.A), r.held(o.B), r.held(o.C))
	r.regs[o.D] = d
	if o.E != none {
		r.regs[o.E] = e
	}
}

// held answers what a register has; none has 0.
func (r *run) held(reg int) uint64 {
	if reg == none {
		return 0
	}
	return r.regs[reg]
}

// results answers what comes into D and E.
func results(o *api.LimbOp, a, b, c uint64) (d, e uint64) {
	odd := c&1 == 1
	switch o.Kind {
	case api.LimbConst:
		return o.Imm, 0
	case api.LimbMove:
		return a, 0
	case api.LimbAdd:
		return a + b, 0
	case api.LimbSub:
		return a - b, 0
	case api.LimbAnd:
		return a & b, 0
	case api.LimbOr:
		return a | b, 0
	case api.LimbXor:
		return a ^ b, 0
	case api.LimbShl:
		return a << o.Imm, 0
	case api.LimbShr:
		return a >> o.Imm, 0
	case api.LimbMul:
		return word.Mul(a, b)
	case api.LimbAdc:
		return carried(word.Add(a, b, odd))
	case api.LimbSbb:
		return carried(word.Sub(a, b, odd))
	}
	// LimbSel is the one that is left.
	return word.Choose(word.Mask(odd), a, b), 0
}

// carried answers what is carried as a word.
func carried(sum uint64, out bool) (uint64, uint64) {
	return sum, word.Mask(out) & 1
}
