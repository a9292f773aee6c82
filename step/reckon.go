package step

import "keysmith/api"

// reckon answers what comes into D, and the flags behind, of what D has, of a word beside it, and of the flags ahead.
type reckon func(a, b uint64, f flags) (uint64, flags)

// reckoning tells how an operation reckons.
func reckoning(op int) reckon {
	switch op {
	case api.OpMov, api.OpMovImm:
		return func(a, b uint64, f flags) (uint64, flags) { return b, f }
	case api.OpCmovc:
		return func(a, b uint64, f flags) (uint64, flags) { return choose(f.carry, b, a), f }
	case api.OpCmovnz:
		return func(a, b uint64, f flags) (uint64, flags) { return choose(f.zero, a, b), f }
	case api.OpAdd, api.OpAddImm:
		return func(a, b uint64, f flags) (uint64, flags) { return add(a, b, false) }
	case api.OpAdc:
		return func(a, b uint64, f flags) (uint64, flags) { return add(a, b, f.carry) }
	case api.OpAdcx:
		return func(a, b uint64, f flags) (uint64, flags) {
			sum, out := add(a, b, f.carry)
			f.carry = out.carry
			return sum, f
		}
	case api.OpAdox:
		return func(a, b uint64, f flags) (uint64, flags) {
			sum, out := add(a, b, f.overflow)
			f.overflow = out.carry
			return sum, f
		}
	case api.OpSub, api.OpSubImm:
		return func(a, b uint64, f flags) (uint64, flags) { return sub(a, b, false) }
	case api.OpSbb:
		return func(a, b uint64, f flags) (uint64, flags) { return sub(a, b, f.carry) }
	case api.OpCmp, api.OpCmpImm:
		return func(a, b uint64, f flags) (uint64, flags) { return a, flagsOfRest(a, b)(a - b) }
	case api.OpNeg:
		return func(a, b uint64, f flags) (uint64, flags) { return sub(0, a, false) }
	}
	return reckoningOfBits(op)
}

func reckoningOfBits(op int) reckon {
	switch op {
	case api.OpAnd, api.OpAndImm:
		return func(a, b uint64, f flags) (uint64, flags) { return a & b, flagsOfBits(a & b) }
	case api.OpOr:
		return func(a, b uint64, f flags) (uint64, flags) { return a | b, flagsOfBits(a | b) }
	case api.OpXor:
		return func(a, b uint64, f flags) (uint64, flags) { return a ^ b, flagsOfBits(a ^ b) }
	case api.OpTest:
		return func(a, b uint64, f flags) (uint64, flags) { return a, flagsOfBits(a & b) }
	case api.OpShl:
		return func(a, n uint64, f flags) (uint64, flags) {
			return a << n, flags{odd(a >> (64 - n)), f.overflow, a<<n == 0}
		}
	case api.OpShr:
		return func(a, n uint64, f flags) (uint64, flags) {
			return a >> n, flags{odd(a >> (n - 1)), f.overflow, a>>n == 0}
		}
	}
	// OpNot is the one that is left.
	return func(a, b uint64, f flags) (uint64, flags) { return ^a, f }
}

func add(a, b uint64, carry bool) (uint64, flags) {
	sum := a + b + choose(carry, 1, 0)
	return sum, flagsOfSum(a, b)(sum)
}

func sub(a, b uint64, borrow bool) (uint64, flags) {
	rest := a - b - choose(borrow, 1, 0)
	return rest, flagsOfRest(a, b)(rest)
}

func choose(first bool, a, b uint64) uint64 {
	if first {
		return a
	}
	return b
}
