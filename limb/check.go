package limb

import (
	"slices"

	"keysmith/api"
)

// refuse answers why a program may not be, whatever its operations are.
func refuse(p api.LimbProg) api.Errno {
	if p.Regs > api.MaxRegs || len(p.Bufs) > api.MaxBufs || len(p.Ops) > api.MaxOps || slices.ContainsFunc(p.Bufs, tooLong) {
		return api.ErrLong
	}
	if p.Regs < 0 || slices.ContainsFunc(p.Bufs, wrong) {
		return api.ErrArg
	}
	return api.OK
}

func tooLong(b api.Buf) bool {
	return b.Size > api.MaxSize
}

// wrong answers whether a buffer has no limbs, or is of no kind.
func wrong(b api.Buf) bool {
	return b.Size <= 0 || b.Kind < api.BufIn || b.Kind > api.BufTmp
}

// made tells of each register whether it was made.
type made [api.MaxRegs]bool

// has answers whether a register was made; of none there is nothing to make.
func (m *made) has(r int) bool {
	return r == none || m[r]
}

func (m *made) add(r int) {
	if r != none {
		m[r] = true
	}
}

func (m *made) drop(r int) {
	m[r] = false
}

// ahead is what stands ahead of an operation: what was made, and the registers that count, of the loops without an end so far.
type ahead struct {
	made  made
	loops []int
}

// fault answers why an operation may not stand next.
func (a *ahead) fault(p api.LimbProg, o api.LimbOp) api.Errno {
	switch {
	case !fits(p, o):
		return api.ErrArg
	case a.misplaced(o):
		return api.ErrState
	case o.Kind == api.LimbLoop && len(a.loops) == api.MaxDeep:
		return api.ErrFull
	case !a.made.has(o.A) || !a.made.has(o.B) || !a.made.has(o.C):
		return api.ErrNone
	}
	return api.OK
}

// misplaced answers whether an operation disagrees with the loops that it stands in, or with what a loop makes.
func (a *ahead) misplaced(o api.LimbOp) bool {
	switch o.Kind {
	case api.LimbEnd:
		return len(a.loops) == 0
	case api.LimbLoop:
		// An outer loop's register is made, too.
		return a.made.has(o.D)
	}
	return slices.Contains(a.loops, o.D) || slices.Contains(a.loops, o.E)
}

// add counts an operation that may stand next as standing ahead.
func (a *ahead) add(o api.LimbOp) {
	if o.Kind == api.LimbEnd {
		last := len(a.loops) - 1
		a.made.drop(a.loops[last])
		a.loops = a.loops[:last]
		return
	}
	a.made.add(o.D)
	a.made.add(o.E)
	if o.Kind == api.LimbLoop {
		a.loops = append(a.loops, o.D)
	}
}
