package inst

import "keysmith/api"

// fits answers whether all that the form has is right in the instruction, and all else 0.
func (f form) fits(i api.Inst) bool {
	if f.has(makesD) && f.has(makesS) && i.D == i.S {
		// One register can't be both.
		return false
	}
	return fitsRegister(i.D, f.has(takesD|makesD)) &&
		fitsRegister(i.S, f.has(takesS|makesS)) &&
		fitsRegister(i.T, f.has(takesT)) &&
		fitsPlace(i.M, f.has(place)) &&
		fitsNumber(i.Imm, f.number)
}

func fitsRegister(r int, has bool) bool {
	return r == 0 || has && isRegister(r)
}

func fitsPlace(m api.Mem, has bool) bool {
	if !has {
		return m == api.Mem{}
	}
	return isRegister(m.Base) && fitsIndex(m.Index, m.Scale) && is32(m.Disp)
}

func fitsIndex(r, scale int) bool {
	switch scale {
	case 1:
		return r == api.None || isIndex(r)
	case 2, 4, 8:
		return isIndex(r)
	}
	return false
}

func isIndex(r int) bool {
	return isRegister(r) && r != api.RSP
}

func fitsNumber(n int64, kind int) bool {
	switch kind {
	case noNumber:
		return n == 0
	case number32:
		return is32(n)
	case distance:
		return n >= 1 && n <= 63
	}
	return true
}

// is32 answers whether a number is one of 32 bits, with its sign.
func is32(n int64) bool {
	return n == int64(int32(n))
}
