package modular

import (
	"fmt"
	"math"
	"math/big"
	"slices"
	"testing"

	"keysmith/api"
	"keysmith/nat"
)

const top = 1<<64 - 1

// toBig answers the natural as the library's great number, against which all is held here.
func toBig(a api.Nat) *big.Int {
	n := new(big.Int)
	for _, x := range slices.Backward(a) {
		n.Lsh(n, 64).Or(n, new(big.Int).SetUint64(x))
	}
	return n
}

func fromBig(n *big.Int) api.Nat {
	var a api.Nat
	for n := new(big.Int).Set(n); n.Sign() > 0; n.Rsh(n, 64) {
		a = append(a, n.Uint64())
	}
	return a
}

// scatter answers limbs with bits all over, the same in each run.
func scatter(limbs int, x uint64) api.Nat {
	a := make(api.Nat, limbs)
	for i := range a {
		x = x*6364136223846793005 + 1442695040888963407
		a[i] = x ^ x>>29
	}
	return a
}

func repeat(limbs int, x uint64) api.Nat {
	return slices.Repeat(api.Nat{x}, limbs)
}

// odd answers a with its lowest bit 1.
func odd(a api.Nat) api.Nat {
	a = slices.Clone(a)
	a[0] |= 1
	return a
}

// numbers are naturals at a limb's edges, small ones, some with noughts at their end.
func numbers() []api.Nat {
	return []api.Nat{
		nil, {}, {0, 0}, {1}, {2}, {3}, {10}, {12, 0}, {97}, {top}, {top - 1}, {1 << 63}, {1<<63 + 1},
		{0, 1}, {1, 1, 0}, {top, top}, {0, top}, {top, 1}, {0, 0, 1}, {1, 0, 1, 0, 0}, repeat(4, top),
		scatter(1, 1), scatter(2, 2), scatter(3, 3), odd(scatter(4, 4)), scatter(5, 5),
	}
}

// moduli are numbers above 0, the least ones among them.
func moduli() []api.Nat {
	var l []api.Nat
	for _, n := range numbers() {
		if toBig(n).Sign() > 0 {
			l = append(l, n)
		}
	}
	return append(l, api.Nat{4}, api.Nat{5}, api.Nat{6}, api.Nat{7}, api.Nat{1, 0, 0})
}

// expect holds an answer, trimmed, against the number that it should be.
func expect(t *testing.T, call string, got api.Nat, e api.Errno, want *big.Int) {
	t.Helper()
	if e != api.OK || !slices.Equal(got, fromBig(want)) {
		t.Fatalf("%s = %x, %d, not %x", call, got, e, fromBig(want))
	}
}

// refused holds an answer against an error beside which there is no number.
func refused(t *testing.T, call string, got api.Nat, e, want api.Errno) {
	t.Helper()
	if e != want || len(got) != 0 {
		t.Errorf("%s = %x, %d, not error %d", call, got, e, want)
	}
}

// P3.1: Add, Sub, Mul, of numbers below n and above it
func TestSumDifferenceProduct(t *testing.T) {
	for _, n := range moduli() {
		for _, a := range numbers() {
			for _, b := range numbers() {
				x, y, by := toBig(a), toBig(b), toBig(n)
				call := fmt.Sprintf("of %x, %x, %x", a, b, n)
				got, e := Add(a, b, n)
				expect(t, "Add "+call, got, e, new(big.Int).Mod(new(big.Int).Add(x, y), by))
				got, e = Sub(a, b, n)
				expect(t, "Sub "+call, got, e, new(big.Int).Mod(new(big.Int).Sub(x, y), by))
				got, e = Mul(a, b, n)
				expect(t, "Mul "+call, got, e, new(big.Int).Mod(new(big.Int).Mul(x, y), by))
			}
		}
	}
}

// P3.1: Add, Sub, Mul of the longest numbers
func TestLongNumbers(t *testing.T) {
	a, b, n := repeat(api.MaxLimbs, top), scatter(api.MaxLimbs, 6), scatter(api.MaxLimbs, 7)
	x, y, by := toBig(a), toBig(b), toBig(n)
	got, e := Add(a, b, n)
	expect(t, "Add", got, e, new(big.Int).Mod(new(big.Int).Add(x, y), by))
	got, e = Sub(b, a, n)
	expect(t, "Sub", got, e, new(big.Int).Mod(new(big.Int).Sub(y, x), by))
	got, e = Mul(a, b, n)
	expect(t, "Mul", got, e, new(big.Int).Mod(new(big.Int).Mul(x, y), by))
}

// P3.1: Pow
func TestPowTable(t *testing.T) {
	for _, c := range []struct{ a, e, n, want uint64 }{
		{3, 4, 10, 1}, {2, 10, 1000, 24}, {2, 0, 10, 1}, {0, 0, 10, 1}, {0, 0, 1, 0}, {5, 0, 1, 0}, {5, 3, 1, 0},
		{0, 1, 10, 0}, {0, 5, 10, 0}, {1, top, 10, 1}, {7, 1, 10, 7}, {17, 1, 10, 7}, {10, 3, 10, 0}, {6, 9, 10, 6},
		{9, 2, 10, 1}, {9, 3, 10, 9}, {2, 64, top, 1}, {2, 63, top, 1 << 63}, {top, top, 1 << 63, top >> 1}, {2, 6, 64, 0},
	} {
		got, e := Pow(api.Nat{c.a}, api.Nat{c.e}, api.Nat{c.n})
		expect(t, fmt.Sprintf("Pow(%d, %d, %d)", c.a, c.e, c.n), got, e, new(big.Int).SetUint64(c.want))
	}
}

// P3.1: Pow, with exponents whose bits end at a limb's edge, and with noughts at their end
func TestPowIsThePower(t *testing.T) {
	exponents := []api.Nat{nil, {0}, {0, 0}, {1}, {2}, {3}, {5, 0}, {1<<63 + 5}, {top}, {0, 1}, {1, 1, 0}, {top, top}, scatter(3, 8)}
	for _, n := range moduli() {
		for _, a := range numbers() {
			for _, e := range exponents {
				got, err := Pow(a, e, n)
				want := new(big.Int).Exp(toBig(a), toBig(e), toBig(n))
				expect(t, fmt.Sprintf("Pow(%x, %x, %x)", a, e, n), got, err, want)
			}
		}
	}
}

// P3.1: Pow of many limbs
func TestPowOfManyLimbs(t *testing.T) {
	for _, limbs := range []int{8, 16} {
		a, e, n := scatter(limbs, 9), scatter(limbs, 10), odd(scatter(limbs, 11))
		got, err := Pow(a, e, n)
		expect(t, fmt.Sprintf("of %d limbs", limbs), got, err, new(big.Int).Exp(toBig(a), toBig(e), toBig(n)))
	}
	a, n := scatter(api.MaxLimbs, 12), repeat(api.MaxLimbs, top)
	got, err := Pow(a, api.Nat{5}, n)
	expect(t, "of the most limbs", got, err, new(big.Int).Exp(toBig(a), big.NewInt(5), toBig(n)))
}

// P3.1: Gcd
func TestGcdTable(t *testing.T) {
	for _, c := range []struct{ a, b, want uint64 }{
		{0, 0, 0}, {0, 5, 5}, {5, 0, 5}, {1, 0, 1}, {1, 1, 1}, {12, 18, 6}, {18, 12, 6}, {12, 12, 12}, {4, 8, 4}, {8, 4, 4},
		{7, 9, 1}, {1, top, 1}, {top, top, top}, {1 << 63, 1 << 62, 1 << 62}, {top, 3, 3}, {top, 15, 15},
	} {
		got := Gcd(api.Nat{c.a}, api.Nat{c.b})
		expect(t, fmt.Sprintf("Gcd(%d, %d)", c.a, c.b), got, api.OK, new(big.Int).SetUint64(c.want))
	}
}

// P3.1: Gcd, of numbers with a divisor in common too
func TestGcdIsTheGreatest(t *testing.T) {
	for _, a := range numbers() {
		for _, b := range numbers() {
			got := Gcd(a, b)
			expect(t, fmt.Sprintf("Gcd(%x, %x)", a, b), got, api.OK, new(big.Int).GCD(nil, nil, toBig(a), toBig(b)))
			for _, c := range []api.Nat{{6}, scatter(2, 13)} {
				x, y := nat.Mul(a, c), nat.Mul(b, c)
				want := new(big.Int).GCD(nil, nil, toBig(x), toBig(y))
				expect(t, fmt.Sprintf("Gcd(%x, %x)", x, y), Gcd(x, y), api.OK, want)
			}
		}
	}
}

// P3.1: Inverse, and its ErrNone
func TestInverseTable(t *testing.T) {
	for _, c := range []struct {
		a, n, want uint64
		e          api.Errno
	}{
		{3, 10, 7, 0}, {7, 10, 3, 0}, {9, 10, 9, 0}, {1, 10, 1, 0}, {13, 10, 7, 0}, {11, 10, 1, 0}, {1, 2, 1, 0}, {3, 2, 1, 0}, {2, 3, 2, 0},
		{0, 1, 0, 0}, {1, 1, 0, 0}, {7, 1, 0, 0}, {top, 1, 0, 0}, {2, top, 1 << 63, 0}, {top - 1, top, top - 1, 0},
		{0, 10, 0, api.ErrNone}, {4, 10, 0, api.ErrNone}, {5, 10, 0, api.ErrNone}, {10, 10, 0, api.ErrNone}, {14, 10, 0, api.ErrNone},
		{0, 2, 0, api.ErrNone}, {2, 2, 0, api.ErrNone}, {3, top, 0, api.ErrNone}, {2, 1 << 63, 0, api.ErrNone},
	} {
		got, e := Inverse(api.Nat{c.a}, api.Nat{c.n})
		if e != c.e || !slices.Equal(got, fromBig(new(big.Int).SetUint64(c.want))) {
			t.Errorf("Inverse(%d, %d) = %d, %d, not %d, %d", c.a, c.n, got, e, c.want, c.e)
		}
	}
}

// inverse holds Inverse against the library's.
func inverse(t *testing.T, a, n api.Nat) {
	t.Helper()
	call := fmt.Sprintf("Inverse(%x, %x)", a, n)
	x, by := toBig(a), toBig(n)
	got, e := Inverse(a, n)
	if new(big.Int).GCD(nil, nil, x, by).Cmp(big.NewInt(1)) != 0 {
		refused(t, call, got, e, api.ErrNone)
		return
	}
	want := new(big.Int)
	if by.Cmp(big.NewInt(1)) > 0 {
		want.ModInverse(new(big.Int).Mod(x, by), by)
	}
	expect(t, call, got, e, want)
}

// P3.1: Inverse of all small numbers, and of great ones
func TestInverseIsTheInverse(t *testing.T) {
	for n := range uint64(30) {
		for a := range uint64(70) {
			inverse(t, api.Nat{a}, api.Nat{n + 1})
		}
	}
	for _, n := range moduli() {
		for _, a := range numbers() {
			inverse(t, a, n)
		}
	}
	inverse(t, scatter(32, 14), odd(scatter(32, 15)))
	inverse(t, scatter(40, 14), scatter(32, 15))
	inverse(t, odd(scatter(64, 16)), append(repeat(64, 0), 1))
}

// P3.1: ErrArg of n 0, whatever else is wrong
func TestNothingModuloNothing(t *testing.T) {
	for _, n := range []api.Nat{nil, {}, {0}, {0, 0, 0}} {
		for _, a := range []api.Nat{nil, {0}, {1}, {4}, {0, 3}} {
			for _, b := range []api.Nat{nil, {1}, {5, 5}} {
				got, e := Add(a, b, n)
				refused(t, "Add", got, e, api.ErrArg)
				got, e = Sub(a, b, n)
				refused(t, "Sub", got, e, api.ErrArg)
				got, e = Mul(a, b, n)
				refused(t, "Mul", got, e, api.ErrArg)
				got, e = Pow(a, b, n)
				refused(t, "Pow", got, e, api.ErrArg)
			}
			got, e := Inverse(a, n)
			refused(t, "Inverse", got, e, api.ErrArg)
			for _, limbs := range []int{-1, 0, 1, api.MaxLimbs, api.MaxLimbs + 1} {
				got, e = Radix(limbs, n)
				refused(t, "Radix", got, e, api.ErrArg)
				got, e = Reduce(a, n, limbs)
				refused(t, "Reduce", got, e, api.ErrArg)
			}
		}
		if x, e := Const(n); x != 0 || e != api.ErrArg {
			t.Errorf("Const(%d) = %d, %d", n, x, e)
		}
	}
}

// P3.2: Const
func TestConst(t *testing.T) {
	for _, c := range []struct{ n, want uint64 }{
		{1, top}, {top, 1}, {3, 0x5555555555555555}, {5, 0x3333333333333333}, {1<<63 + 1, 1<<63 - 1},
	} {
		if got, e := Const(api.Nat{c.n}); got != c.want || e != api.OK {
			t.Errorf("Const(%x) = %x, %d, not %x", c.n, got, e, c.want)
		}
	}
	for _, n := range moduli() {
		got, e := Const(n)
		if n[0]&1 == 0 {
			if got != 0 || e != api.ErrArg {
				t.Errorf("Const(%x) = %x, %d", n, got, e)
			}
		} else if e != api.OK || n[0]*got != top {
			t.Errorf("Const(%x) = %x, %d", n, got, e)
		}
	}
}

// P3.2: Radix
func TestRadix(t *testing.T) {
	for _, n := range append(moduli(), scatter(32, 17), append(repeat(8, 0), 1), append(repeat(8, 0), 1, 0)) {
		for _, limbs := range []int{0, 1, 2, 3, 4, 5, 8, 32, api.MaxLimbs} {
			got, e := Radix(limbs, n)
			radix := new(big.Int).Lsh(big.NewInt(1), uint(64*limbs))
			expect(t, fmt.Sprintf("Radix(%d, %x)", limbs, n), got, e, radix.Mod(radix, toBig(n)))
		}
		for _, limbs := range []int{-1, api.MaxLimbs + 1, math.MinInt, math.MaxInt} {
			got, e := Radix(limbs, n)
			refused(t, fmt.Sprintf("Radix(%d, %x)", limbs, n), got, e, api.ErrArg)
		}
	}
}

// reduced holds Reduce against the product with the radix's inverse.
func reduced(t *testing.T, a, n api.Nat, limbs int) {
	t.Helper()
	by := toBig(n)
	want := new(big.Int)
	if by.Cmp(big.NewInt(1)) > 0 {
		radix := new(big.Int).Lsh(big.NewInt(1), uint(64*limbs))
		want.ModInverse(radix.Mod(radix, by), by)
	}
	want.Mul(want, toBig(a)).Mod(want, by)
	got, e := Reduce(a, n, limbs)
	expect(t, fmt.Sprintf("Reduce(%x, %x, %d)", a, n, limbs), got, e, want)
}

// P3.2: Reduce, of numbers above n too, of more limbs and fewer than n has; an even n is refused
func TestReduce(t *testing.T) {
	for _, n := range moduli() {
		for _, a := range append(numbers(), n, scatter(9, 18)) {
			for limbs := range 7 {
				if n[0]&1 == 1 {
					reduced(t, a, n, limbs)
				} else {
					got, e := Reduce(a, n, limbs)
					refused(t, fmt.Sprintf("Reduce(%x, %x, %d)", a, n, limbs), got, e, api.ErrArg)
				}
			}
		}
	}
}

// P3.2: Reduce of the most limbs, and of wrong numbers of them
func TestReduceLimbs(t *testing.T) {
	reduced(t, scatter(3, 19), api.Nat{97}, api.MaxLimbs)
	reduced(t, scatter(64, 19), odd(scatter(32, 20)), 32)
	reduced(t, scatter(api.MaxLimbs, 21), repeat(api.MaxLimbs, top), api.MaxLimbs)
	for _, limbs := range []int{-1, api.MaxLimbs + 1, math.MinInt, math.MaxInt} {
		got, e := Reduce(api.Nat{6}, api.Nat{5}, limbs)
		refused(t, fmt.Sprintf("Reduce with %d limbs", limbs), got, e, api.ErrArg)
	}
}

// P3.3: Reduce of a product with the radix is the rest
func TestReduceUndoesTheRadix(t *testing.T) {
	for _, n := range moduli() {
		if n[0]&1 == 0 {
			continue
		}
		for _, a := range numbers() {
			for limbs := range 6 {
				radix, _ := Radix(limbs, n)
				got, e := Reduce(nat.Mul(a, radix), n, limbs)
				_, r, _ := nat.Div(a, n)
				if !slices.Equal(got, r) || e != api.OK {
					t.Fatalf("%x modulo %x, by the radix of %d limbs: %x, %d, not %x", a, n, limbs, got, e, r)
				}
			}
		}
	}
}

// P3.3: powers add their exponents, multiplied
func TestPowersAddTheirExponents(t *testing.T) {
	for _, n := range moduli() {
		for _, a := range numbers() {
			for _, e := range []api.Nat{nil, {1}, {3, 5}} {
				for _, f := range []api.Nat{{0}, {1}, {top - 1}} {
					x, _ := Pow(a, e, n)
					y, _ := Pow(a, f, n)
					product, _ := Mul(x, y, n)
					if whole, _ := Pow(a, nat.Add(e, f), n); !slices.Equal(product, whole) {
						t.Fatalf("%x to the %x and to the %x modulo %x: %x, not %x", a, e, f, n, product, whole)
					}
				}
			}
		}
	}
}

// spoil writes over an answer, its spare room too.
func spoil(a api.Nat) {
	a = a[:cap(a)]
	for i := range a {
		a[i] = 0xdead
	}
}

// calls are all that answer a natural; a and b stand where n stands too.
func calls() map[string]func(a, b, n api.Nat) (api.Nat, api.Errno) {
	return map[string]func(a, b, n api.Nat) (api.Nat, api.Errno){
		"Add":     Add,
		"Sub":     Sub,
		"Mul":     Mul,
		"Pow":     func(a, b, n api.Nat) (api.Nat, api.Errno) { return Pow(a, nat.Low(b, 1), n) },
		"Gcd":     func(a, b, n api.Nat) (api.Nat, api.Errno) { return Gcd(a, n), api.OK },
		"GcdBack": func(a, b, n api.Nat) (api.Nat, api.Errno) { return Gcd(n, a), api.OK },
		"Inverse": func(a, b, n api.Nat) (api.Nat, api.Errno) { return Inverse(a, n) },
		"Radix":   func(a, b, n api.Nat) (api.Nat, api.Errno) { return Radix(2, n) },
		"Reduce":  func(a, b, n api.Nat) (api.Nat, api.Errno) { return Reduce(a, n, 2) },
		"Rest":    func(a, b, n api.Nat) (api.Nat, api.Errno) { return Reduce(a, n, 0) },
	}
}

// DOC.md's rule 3: nothing that is handed in is changed or handed out, its spare room neither read nor written.
func TestAnswersAreNewMemory(t *testing.T) {
	room := api.Nat{7, 7, 7}
	for name, call := range calls() {
		for _, x := range numbers() {
			for _, y := range moduli() {
				a, n := append(slices.Clone(x), room...), append(slices.Clone(y), room...)
				want, wantE := call(slices.Clip(slices.Clone(x)), nil, slices.Clip(slices.Clone(y)))
				got, e := call(a[:len(x)], nil, n[:len(y)])
				if !slices.Equal(got, want) || e != wantE {
					t.Fatalf("%s of %x, %x: spare room was read: %x, %d, not %x, %d", name, x, y, got, e, want, wantE)
				}
				spoil(got)
				if !slices.Equal(a, append(slices.Clone(x), room...)) || !slices.Equal(n, append(slices.Clone(y), room...)) {
					t.Fatalf("%s of %x, %x: what was handed in is now %x, %x", name, x, y, a, n)
				}
			}
		}
	}
}

// DOC.md's rule 3: one number may be handed in everywhere.
func TestOneNumberEverywhere(t *testing.T) {
	for _, n := range moduli() {
		kept := slices.Clone(n)
		for name, call := range calls() {
			want, wantE := call(slices.Clone(n), slices.Clone(n), slices.Clone(n))
			got, e := call(n, n, n)
			if !slices.Equal(got, want) || e != wantE || !slices.Equal(n, kept) {
				t.Fatalf("%s of %x thrice: %x, %d, not %x, %d", name, n, got, e, want, wantE)
			}
		}
	}
}

// The document's examples of layer 3, and the README's.
func TestExamples(t *testing.T) {
	n := api.Nat{10}
	p, e := Pow(api.Nat{3}, api.Nat{4}, n)
	expect(t, "Pow", p, e, big.NewInt(1))
	x, e := Inverse(api.Nat{3}, n)
	expect(t, "Inverse", x, e, big.NewInt(7))
	d, e := Sub(api.Nat{3}, api.Nat{28}, n)
	expect(t, "Sub", d, e, big.NewInt(5))
	if c, e := Const(api.Nat{1}); c != top || e != api.OK {
		t.Error(c, e)
	}
	t1, e := Reduce(api.Nat{6}, api.Nat{5}, 1)
	expect(t, "Reduce", t1, e, big.NewInt(1))
}
