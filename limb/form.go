package limb

import (
	"math"

	"keysmith/api"
)

// none stands where there is no register, no limb's place, no operation that belongs to one.
const none = -1

// parts are what an operation has, as bits.
type parts uint8

const (
	hasD parts = 1 << iota
	hasE
	hasA
	hasB
	hasC
	place // has Buf, and A or none
)

// form is what operations of a kind have, and which numbers Imm may be.
type form struct {
	parts parts
	least uint64
	most  uint64
}

var forms = [api.LimbEnd + 1]form{
	api.LimbConst: {parts: hasD, most: math.MaxUint64},
	api.LimbMove:  {parts: hasD | hasA},
	api.LimbAdd:   {parts: hasD | hasA | hasB},
	api.LimbSub:   {parts: hasD | hasA | hasB},
	api.LimbAnd:   {parts: hasD | hasA | hasB},
	api.LimbOr:    {parts: hasD | hasA | hasB},
	api.LimbXor:   {parts: hasD | hasA | hasB},
	api.LimbShl:   {parts: hasD | hasA, least: 1, most: 63},
	api.LimbShr:   {parts: hasD | hasA, least: 1, most: 63},
	api.LimbMul:   {parts: hasD | hasE | hasA | hasB},
	api.LimbAdc:   {parts: hasD | hasE | hasA | hasB | hasC},
	api.LimbSbb:   {parts: hasD | hasE | hasA | hasB | hasC},
	api.LimbSel:   {parts: hasD | hasA | hasB | hasC},
	api.LimbLoad:  {parts: hasD | place, most: math.MaxUint64},
	api.LimbStore: {parts: hasB | place, most: math.MaxUint64},
	api.LimbLoop:  {parts: hasD, least: 1, most: api.MaxTimes},
	api.LimbEnd:   {},
}

func (f form) has(p parts) bool {
	return f.parts&p != 0
}

// fits answers whether an operation has what it must have, and nothing else.
func fits(p api.LimbProg, o api.LimbOp) bool {
	if o.Kind < api.LimbConst || o.Kind > api.LimbEnd {
		return false
	}
	f := forms[o.Kind]
	return f.fitsRegisters(p.Regs, o) && f.fitsPlace(p.Bufs, o) && o.Imm >= f.least && o.Imm <= f.most
}

func (f form) fitsRegisters(regs int, o api.LimbOp) bool {
	if f.has(hasE) && o.D == o.E {
		// One register can't be both.
		return false
	}
	withoutA := f.has(place) && o.A == none
	return fitsRegister(o.D, f.has(hasD), regs) &&
		fitsRegister(o.E, f.has(hasE), regs) &&
		(withoutA || fitsRegister(o.A, f.has(hasA|place), regs)) &&
		fitsRegister(o.B, f.has(hasB), regs) &&
		fitsRegister(o.C, f.has(hasC), regs)
}

func fitsRegister(r int, has bool, regs int) bool {
	if !has {
		return r == none
	}
	return r >= 0 && r < regs
}

func (f form) fitsPlace(bufs []api.Buf, o api.LimbOp) bool {
	if !f.has(place) {
		return o.Buf == 0
	}
	if o.Buf < 0 || o.Buf >= len(bufs) {
		return false
	}
	b := bufs[o.Buf]
	if o.Kind == api.LimbStore && b.Kind == api.BufIn {
		return false
	}
	// With A, the limb's place is known in a run alone.
	return o.A != none || o.Imm < uint64(b.Size)
}
