package lower

import (
	"keysmith/api"
	"keysmith/limb"
)

// known is what is known of a program, whatever is in its buffers.
type known struct {
	ops  []api.LimbOp
	ends []int
	// even are the registers that have nothing but even numbers, bits those that have nothing but 0 and 1.
	even set
	bits set
	// needed are, ahead of each operation and at the end, the registers whose numbers are taken from there on.
	needed []set
	// handed tells of each operation whether it carries out into CF alone, found whether it finds there what it carries in.
	handed []bool
	found  []bool
}

func knownOf(p api.LimbProg) known {
	k := known{ops: p.Ops, ends: limb.Ends(p), even: evens(p.Ops), bits: bits(p.Ops)}
	k.needed = k.need()
	k.handed, k.found = k.hand()
	return k
}

// evens answers the registers that have nothing but even constants.
func evens(ops []api.LimbOp) set {
	s := everyone
	for _, o := range ops {
		if o.Kind != api.LimbConst || o.Imm%2 == 1 {
			s &^= made(o)
		}
	}
	return s
}

// bits answers the registers that have nothing but 0 and 1: all, but for those that some operation makes something else, till no more are found.
func bits(ops []api.LimbOp) set {
	s, before := everyone, set(0)
	for s != before {
		before = s
		for _, o := range ops {
			s &^= made(o) &^ bitsOf(o, s)
		}
	}
	return s
}

// bitsOf answers those registers that an operation makes 0 or 1, if these ones have nothing else.
func bitsOf(o api.LimbOp, s set) set {
	is := false
	switch o.Kind {
	case api.LimbAdc, api.LimbSbb:
		return setOf(o.E)
	case api.LimbConst:
		is = o.Imm <= 1
	case api.LimbLoop:
		is = o.Imm <= 2
	case api.LimbMove:
		is = s.has(o.A)
	case api.LimbAnd:
		is = s.has(o.A) || s.has(o.B)
	case api.LimbOr, api.LimbXor, api.LimbSel:
		is = s.has(o.A) && s.has(o.B)
	}
	if !is {
		return 0
	}
	return setOf(o.D)
}

// need answers the needed registers: what stands in a loop tells them to its end, so it is gone through till nothing changes.
func (k known) need() []set {
	l := make([]set, len(k.ops)+1)
	for changed := true; changed; {
		changed = false
		for at := len(k.ops) - 1; at >= 0; at-- {
			s := k.ahead(at, l)
			changed = changed || s != l[at]
			l[at] = s
		}
	}
	return l
}

// ahead answers the registers that are needed ahead of an operation, by those that are needed elsewhere so far.
func (k known) ahead(at int, l []set) set {
	o := k.ops[at]
	if o.Kind == api.LimbEnd {
		loop := k.ends[at]
		return l[at+1] | l[loop+1] | made(k.ops[loop])
	}
	return l[at+1]&^made(o) | taken(o)
}

// hand answers which operations carry out into CF alone, and which find there what they carry in.
func (k known) hand() (handed, found []bool) {
	handed, found = make([]bool, len(k.ops)), make([]bool, len(k.ops))
	for at, o := range k.ops {
		if !carries(o) {
			continue
		}
		if heir, ok := k.heir(at); ok {
			handed[at], found[heir] = true, true
		}
	}
	return handed, found
}

// heir answers the operation that carries in what the one at a place carries out, if that one alone asks for it, and finds CF as it was left.
func (k known) heir(at int) (int, bool) {
	out := k.ops[at].E
	for next := at + 1; next < len(k.ops); next++ {
		o := k.ops[next]
		if carries(o) && o.C == out && k.spent(next) {
			return next, true
		}
		if !leavesFlags(o) || (made(o) | taken(o)).has(out) {
			break
		}
	}
	return 0, false
}

// spent answers whether an operation that carries in is the last one to ask for what it carries in, and asks for it as such alone.
func (k known) spent(at int) bool {
	o := k.ops[at]
	return o.A != o.C && o.B != o.C && (made(o).has(o.C) || !k.needed[at+1].has(o.C))
}

func carries(o api.LimbOp) bool {
	return o.Kind == api.LimbAdc || o.Kind == api.LimbSbb
}

// leavesFlags answers whether the code of an operation changes no flag.
func leavesFlags(o api.LimbOp) bool {
	switch o.Kind {
	case api.LimbMove, api.LimbMul, api.LimbLoad, api.LimbStore:
		return true
	case api.LimbConst:
		return o.Imm != 0
	}
	return false
}
