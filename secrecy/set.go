package secrecy

import "keysmith/api"

// set is registers, each a bit: so there is room for api.MaxRegs.
type set uint64

// has answers whether a register is one of the set; where there is no register, there is none of the set.
func (s set) has(r int) bool {
	return r >= 0 && s>>r&1 == 1
}

func (s set) with(r int) set {
	if r < 0 {
		return s
	}
	return s | 1<<r
}

// secrets answers which registers are secret. An operation may take what one behind it makes secret, so one round is not enough.
func secrets(p api.LimbProg) set {
	var s set
	for {
		more := s.grown(p)
		if more == s {
			return s
		}
		s = more
	}
}

// grown answers the set with what is made from its registers, and from secret buffers.
func (s set) grown(p api.LimbProg) set {
	for _, o := range p.Ops {
		if s.feeds(p.Bufs, o) {
			s = s.with(o.D).with(o.E)
		}
	}
	return s
}

// feeds answers whether an operation takes something secret.
func (s set) feeds(bufs []api.Buf, o api.LimbOp) bool {
	if o.Kind == api.LimbLoad && bufs[o.Buf].Secret {
		return true
	}
	return s.has(o.A) || s.has(o.B) || s.has(o.C)
}
