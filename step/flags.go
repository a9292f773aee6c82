package step

// flags are those of a state.
type flags struct {
	carry, overflow, zero bool
}

// flagsOfSum tells the flags of a sum of both words, whatever was carried in.
func flagsOfSum(a, b uint64) func(sum uint64) flags {
	return func(sum uint64) flags {
		return flags{
			// A bit is carried where both have it, or one has it and the sum has lost it.
			carry: negative(a&b | (a|b)&^sum),
			// The sum is wrong with signs, if its own is neither a's nor b's.
			overflow: negative((a ^ sum) & (b ^ sum)),
			zero:     sum == 0,
		}
	}
}

// flagsOfRest tells the flags of a less b, whatever was borrowed.
func flagsOfRest(a, b uint64) func(rest uint64) flags {
	return func(rest uint64) flags {
		// a is the sum of b and the rest, so what is borrowed is what that sum carries.
		f := flagsOfSum(b, rest)(a)
		return flags{carry: f.carry, overflow: f.overflow, zero: rest == 0}
	}
}

func flagsOfBits(v uint64) flags {
	return flags{zero: v == 0}
}

// negative answers whether the highest bit is 1, which is a number's sign.
func negative(v uint64) bool {
	return v>>63 == 1
}

func odd(v uint64) bool {
	return v&1 == 1
}
