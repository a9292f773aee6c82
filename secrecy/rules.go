package secrecy

import "keysmith/api"

// known is what rules look at: the buffers, and which registers are secret.
type known struct {
	bufs   []api.Buf
	secret set
}

// rule answers whether an operation may be.
type rule func(k known, o api.LimbOp) bool

func rules() []rule {
	return []rule{publicPlace, publicLimbs, publicTimes}
}

// allows answers whether no rule says no.
func (k known) allows(all []rule, o api.LimbOp) bool {
	for _, r := range all {
		if !r(k, o) {
			return false
		}
	}
	return true
}

// publicPlace keeps secrets out of the places of limbs, which are seen.
func publicPlace(k known, o api.LimbOp) bool {
	touches := o.Kind == api.LimbLoad || o.Kind == api.LimbStore
	return !touches || !k.secret.has(o.A)
}

// publicLimbs keeps secrets out of buffers that are not secret: what is loaded of those counts as public.
func publicLimbs(k known, o api.LimbOp) bool {
	return o.Kind != api.LimbStore || k.bufs[o.Buf].Secret || !k.secret.has(o.B)
}

// publicTimes keeps secrets out of the registers by which loops count.
func publicTimes(k known, o api.LimbOp) bool {
	return o.Kind != api.LimbLoop || !k.secret.has(o.D)
}
