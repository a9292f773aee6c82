package modular

import (
	"keysmith/api"
	"keysmith/nat"
)

// Inverse answers the number below n whose product with a is 1 modulo n, if a and n have nothing in common.
func Inverse(a, n api.Nat) (api.Nat, api.Errno) {
	left, e := rest(a, n)
	if e != api.OK {
		return nil, e
	}
	d := division{upper: pair{left: n}, lower: pair{left: left, times: api.Nat{1}}}
	for nat.Bits(d.lower.left) > 0 {
		d.step(n)
	}
	if nat.Compare(d.upper.left, api.Nat{1}) != 0 {
		return nil, api.ErrNone
	}
	return d.upper.times, api.OK
}

// pair is a number that is left, and how many times a it is modulo n (below n, but for the 1 that stands beside a itself).
type pair struct {
	left, times api.Nat
}

// division is the last two numbers that are left when n and a divide one another.
type division struct {
	upper, lower pair
}

// step divides the upper number by the lower one, whose turn it is then.
func (d *division) step(n api.Nat) {
	q, left, _ := nat.Div(d.upper.left, d.lower.left)
	times, _ := Sub(d.upper.times, nat.Mul(q, d.lower.times), n)
	d.upper, d.lower = d.lower, pair{left, times}
}
