package lower

import "keysmith/api"

// set is virtual registers, each a bit: so there is room for api.MaxRegs.
type set uint64

const everyone = ^set(0)

// setOf answers the set of these registers; where there is no register, there is none of the set.
func setOf(l ...int) set {
	var s set
	for _, r := range l {
		if r >= 0 {
			s |= 1 << r
		}
	}
	return s
}

func (s set) has(r int) bool {
	return s&setOf(r) != 0
}

// made answers the registers that an operation makes.
func made(o api.LimbOp) set {
	return setOf(o.D, o.E)
}

// taken answers the registers that an operation takes.
func taken(o api.LimbOp) set {
	return setOf(o.A, o.B, o.C)
}
