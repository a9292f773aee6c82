package alloc

import (
	"slices"

	"keysmith/api"
	"keysmith/limb"
)

// none stands where there is no register and no operation.
const none = -1

// manyTimes is how often an operation counts at most. It keeps what is reckoned of it below 2^64, as there are fewer than 2^19 touches, and spans of at most 2^16 operations.
const manyTimes = 1 << 28

// life is a register's span, and how often a run touches it.
type life struct {
	reg     int
	first   int
	last    int
	touched uint64
}

// lives answers the life of each register of a program that may be.
func lives(p api.LimbProg) []life {
	l := make([]life, p.Regs)
	for r := range l {
		l[r] = life{reg: r, first: none, last: none}
	}
	ends := limb.Ends(p)
	touch(l, p.Ops, ends)
	stretch(l, p.Ops, ends)
	return l
}

// touch puts operations into the lives of the registers that they have.
func touch(l []life, ops []api.LimbOp, ends []int) {
	// The program itself stands in no loop: it is done once.
	times := []uint64{1}
	for at, o := range ops {
		if o.Kind == api.LimbLoop {
			times = append(times, min(times[len(times)-1]*o.Imm, manyTimes))
		}
		now := times[len(times)-1]
		if o.Kind == api.LimbEnd {
			// What its loop has, an end takes.
			o = ops[ends[at]]
			times = times[:len(times)-1]
		}
		for _, r := range [...]int{o.D, o.E, o.A, o.B, o.C} {
			if r != none {
				l[r].touch(at, now)
			}
		}
	}
}

func (l *life) touch(at int, times uint64) {
	if l.first == none {
		l.first = at
	}
	l.last = at
	l.touched += times
}

// stretch makes lives that a loop comes back to go up to its end. Outer loops stand ahead of inner ones, so the first one that stretches a life is the outermost that can, and no other one is left then.
func stretch(l []life, ops []api.LimbOp, ends []int) {
	for at, o := range ops {
		if o.Kind != api.LimbLoop {
			continue
		}
		for r := range l {
			l[r].stretch(at, ends[at])
		}
	}
}

func (l *life) stretch(loop, end int) {
	if l.first < loop && loop <= l.last && l.last < end {
		l.last = end
	}
}

// alive answers the lives of those registers that operations have.
func alive(l []life) []life {
	return slices.DeleteFunc(l, func(one life) bool { return one.first == none })
}

// length answers how many operations a span has.
func (l life) length() uint64 {
	return uint64(l.last - l.first + 1)
}

// meets answers whether two spans have an operation both.
func (l life) meets(m life) bool {
	return l.first <= m.last && m.first <= l.last
}
