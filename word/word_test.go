package word

import (
	"fmt"
	"math/big"
	"testing"
)

const top = 1<<64 - 1

// edges are words at which something is carried, borrowed or cut: around 0, half a word, the sign's bit, 2^64.
func edges() []uint64 {
	return []uint64{
		0, 1, 2, 3, 5, 10,
		1<<31 - 1, 1 << 31, 1<<32 - 2, 1<<32 - 1, 1 << 32, 1<<32 + 1, 1<<33 - 1,
		1<<63 - 1, 1 << 63, 1<<63 + 1,
		0xffffffff00000000, 0xffffffff00000001, 0xaaaaaaaaaaaaaaaa, 0x0123456789abcdef,
		top - 2, top - 1, top,
	}
}

// spread answers edges and words with bits all over, the same in each run.
func spread() []uint64 {
	l := edges()
	x := uint64(0x9e3779b97f4a7c15)
	for range 40 {
		x ^= x << 13
		x ^= x >> 7
		x ^= x << 17
		l = append(l, x, x>>(x&63))
	}
	return l
}

func natural(words ...uint64) *big.Int {
	n := new(big.Int)
	for _, w := range words {
		n.Lsh(n, 64).Or(n, new(big.Int).SetUint64(w))
	}
	return n
}

func number(is bool) uint64 {
	if is {
		return 1
	}
	return 0
}

// P1.1: Add
func TestAddTable(t *testing.T) {
	for _, c := range []struct {
		a, b  uint64
		carry bool
		sum   uint64
		out   bool
	}{
		{0, 0, false, 0, false},
		{0, 0, true, 1, false},
		{2, 3, false, 5, false},
		{2, 3, true, 6, false},
		{top, 0, false, top, false},
		{top, 0, true, 0, true},
		{0, top, true, 0, true},
		{top, 1, false, 0, true},
		{1, top, false, 0, true},
		{top, 1, true, 1, true},
		{top - 1, 1, false, top, false},
		{top - 1, 1, true, 0, true},
		{top, top, false, top - 1, true},
		{top, top, true, top, true},
		{1 << 63, 1 << 63, false, 0, true},
	} {
		if sum, out := Add(c.a, c.b, c.carry); sum != c.sum || out != c.out {
			t.Errorf("Add(%d, %d, %t) = %d, %t, not %d, %t", c.a, c.b, c.carry, sum, out, c.sum, c.out)
		}
	}
}

// P1.1: Add
func TestAddIsTheSum(t *testing.T) {
	for _, a := range spread() {
		for _, b := range spread() {
			for _, carry := range []bool{false, true} {
				sum, out := Add(a, b, carry)
				want := natural(a)
				want.Add(want, natural(b)).Add(want, natural(number(carry)))
				if natural(number(out), sum).Cmp(want) != 0 {
					t.Fatalf("Add(%d, %d, %t) = %d, %t", a, b, carry, sum, out)
				}
			}
		}
	}
}

// P1.1: Sub
func TestSubTable(t *testing.T) {
	for _, c := range []struct {
		a, b   uint64
		borrow bool
		rest   uint64
		out    bool
	}{
		{0, 0, false, 0, false},
		{0, 0, true, top, true},
		{0, 1, false, top, true},
		{0, 1, true, top - 1, true},
		{1, 0, true, 0, false},
		{5, 3, false, 2, false},
		{5, 3, true, 1, false},
		{5, 5, false, 0, false},
		{5, 5, true, top, true},
		{3, 5, false, top - 1, true},
		{0, top, false, 1, true},
		{0, top, true, 0, true},
		{top, top, false, 0, false},
		{top, top, true, top, true},
		{top, 0, true, top - 1, false},
		{1 << 63, 1, false, 1<<63 - 1, false},
	} {
		if rest, out := Sub(c.a, c.b, c.borrow); rest != c.rest || out != c.out {
			t.Errorf("Sub(%d, %d, %t) = %d, %t, not %d, %t", c.a, c.b, c.borrow, rest, out, c.rest, c.out)
		}
	}
}

// P1.1: Sub
func TestSubIsTheRest(t *testing.T) {
	for _, a := range spread() {
		for _, b := range spread() {
			for _, borrow := range []bool{false, true} {
				rest, out := Sub(a, b, borrow)
				// What is left, and what was taken beside, make a again.
				got := natural(rest)
				got.Add(got, natural(b)).Add(got, natural(number(borrow)))
				if got.Cmp(natural(number(out), a)) != 0 {
					t.Fatalf("Sub(%d, %d, %t) = %d, %t", a, b, borrow, rest, out)
				}
			}
		}
	}
}

// P1.1: Mul
func TestMulTable(t *testing.T) {
	for _, c := range []struct{ a, b, high, low uint64 }{
		{0, 0, 0, 0},
		{0, top, 0, 0},
		{top, 0, 0, 0},
		{1, top, 0, top},
		{top, 1, 0, top},
		{2, top, 1, top - 1},
		{6, 7, 0, 42},
		{1<<32 - 1, 1<<32 - 1, 0, 0xfffffffe00000001},
		{1 << 32, 1 << 32, 1, 0},
		{1 << 63, 2, 1, 0},
		{1 << 63, 1 << 63, 1 << 62, 0},
		{top, top, top - 1, 1},
	} {
		if high, low := Mul(c.a, c.b); high != c.high || low != c.low {
			t.Errorf("Mul(%d, %d) = %d, %d, not %d, %d", c.a, c.b, high, low, c.high, c.low)
		}
	}
}

// P1.1: Mul
func TestMulIsTheProduct(t *testing.T) {
	for _, a := range spread() {
		for _, b := range spread() {
			high, low := Mul(a, b)
			want := natural(a)
			want.Mul(want, natural(b))
			if natural(high, low).Cmp(want) != 0 {
				t.Fatalf("Mul(%d, %d) = %d, %d", a, b, high, low)
			}
		}
	}
}

// P1.2: Div
func TestDivTable(t *testing.T) {
	for _, c := range []struct{ high, low, by, q, r uint64 }{
		{0, 0, 1, 0, 0},
		{0, 5, 10, 0, 5},
		{0, 10, 10, 1, 0},
		{0, 42, 5, 8, 2},
		{0, top, 1, top, 0},
		{1, 5, 10, 1844674407370955162, 1},
		{1, 0, 2, 1 << 63, 0},
		{9, top, 10, top, 9},
		{top - 1, 1, top, top, 0},
		{top - 1, top, top, top, top - 1},
		{1<<63 - 1, top, 1 << 63, top, 1<<63 - 1},
	} {
		if q, r, ok := Div(c.high, c.low, c.by); q != c.q || r != c.r || !ok {
			t.Errorf("Div(%d, %d, %d) = %d, %d, %t, not %d, %d, true", c.high, c.low, c.by, q, r, ok, c.q, c.r)
		}
	}
}

// P1.2: Div, high not below by
func TestDivOfTooMuch(t *testing.T) {
	for _, c := range []struct{ high, low, by uint64 }{
		{0, 0, 0}, {0, 5, 0}, {1, 0, 0}, {top, top, 0},
		{1, 0, 1}, {10, 0, 10}, {10, 7, 10}, {11, 7, 10},
		{top, 0, top}, {top, top, top}, {top, 0, 1}, {1 << 63, 0, 1 << 63},
	} {
		if q, r, ok := Div(c.high, c.low, c.by); q != 0 || r != 0 || ok {
			t.Errorf("Div(%d, %d, %d) = %d, %d, %t, not 0, 0, false", c.high, c.low, c.by, q, r, ok)
		}
	}
}

// P1.2: Div
func TestDivIsQuotientAndRest(t *testing.T) {
	for _, high := range spread() {
		for _, low := range spread() {
			for _, by := range edges() {
				got := fmt.Sprint(Div(high, low, by))
				want := "0 0 false"
				if high < by {
					q, r := new(big.Int).QuoRem(natural(high, low), natural(by), new(big.Int))
					want = fmt.Sprint(q, r, true)
				}
				if got != want {
					t.Fatalf("Div(%d, %d, %d) = %s, not %s", high, low, by, got, want)
				}
			}
		}
	}
}

// P1.2: Inverse, and its example
func TestInverseTable(t *testing.T) {
	for _, c := range []struct{ n, x uint64 }{
		{1, 1},
		{3, 12297829382473034411},
		{5, 14757395258967641293},
		{top, top},
		{1<<63 + 1, 1<<63 + 1},
		{1<<32 + 1, top - 1<<32 + 2},
	} {
		if x, ok := Inverse(c.n); x != c.x || !ok {
			t.Errorf("Inverse(%d) = %d, %t, not %d, true", c.n, x, ok, c.x)
		}
	}
}

// P1.2: Inverse
func TestInverseOfOdd(t *testing.T) {
	try := func(n uint64) {
		if x, ok := Inverse(n); n*x != 1 || !ok {
			t.Fatalf("Inverse(%d) = %d, %t: the product is %d", n, x, ok, n*x)
		}
	}
	for n := uint64(1); n < 1<<12; n += 2 {
		try(n)
		try(-n)
	}
	for _, n := range spread() {
		try(n | 1)
	}
}

// P1.2: Inverse, of even numbers
func TestInverseOfEven(t *testing.T) {
	for _, n := range spread() {
		if x, ok := Inverse(n &^ 1); x != 0 || ok {
			t.Errorf("Inverse(%d) = %d, %t, not 0, false", n&^1, x, ok)
		}
	}
}

// P1.2: Mask
func TestMask(t *testing.T) {
	if m := Mask(true); m != top {
		t.Errorf("Mask(true) = %x", m)
	}
	if m := Mask(false); m != 0 {
		t.Errorf("Mask(false) = %x", m)
	}
}

// P1.2: Choose
func TestChooseTable(t *testing.T) {
	for _, c := range []struct{ mask, a, b, want uint64 }{
		{0xf0, 0xab, 0xcd, 0xad},
		{0x0f, 0xab, 0xcd, 0xcb},
		{0, 0xab, 0xcd, 0xcd},
		{top, 0xab, 0xcd, 0xab},
		{1, 0, top, top - 1},
		{1 << 63, top, 0, 1 << 63},
		{1, top, 0, 1},
		{0xffffffff00000000, 0x1111111122222222, 0x3333333344444444, 0x1111111144444444},
	} {
		if got := Choose(c.mask, c.a, c.b); got != c.want {
			t.Errorf("Choose(%x, %x, %x) = %x, not %x", c.mask, c.a, c.b, got, c.want)
		}
	}
}

// P1.2: Choose
func TestChooseBitByBit(t *testing.T) {
	for _, mask := range spread() {
		for _, a := range edges() {
			for _, b := range edges() {
				got := Choose(mask, a, b)
				for i := range 64 {
					from := b
					if mask>>i&1 == 1 {
						from = a
					}
					if got>>i&1 != from>>i&1 {
						t.Fatalf("Choose(%x, %x, %x) = %x: bit %d", mask, a, b, got, i)
					}
				}
			}
		}
	}
}

// P1.2: Bits
func TestBits(t *testing.T) {
	for _, c := range []struct {
		a    uint64
		want int
	}{{0, 0}, {1, 1}, {2, 2}, {3, 2}, {4, 3}, {5, 3}, {255, 8}, {256, 9}, {1 << 32, 33}, {1<<63 - 1, 63}, {1 << 63, 64}, {top, 64}} {
		if got := Bits(c.a); got != c.want {
			t.Errorf("Bits(%d) = %d, not %d", c.a, got, c.want)
		}
	}
	for i := range 64 {
		if got := Bits(1 << i); got != i+1 {
			t.Errorf("Bits of 2^%d: %d", i, got)
		}
		if got := Bits(1<<i - 1); got != i {
			t.Errorf("Bits of 2^%d - 1: %d", i, got)
		}
	}
	for _, a := range spread() {
		if got := Bits(a); got != natural(a).BitLen() {
			t.Errorf("Bits(%d) = %d", a, got)
		}
	}
}

// P1.3: Div undoes Mul and Add
func TestDivUndoesMulAndAdd(t *testing.T) {
	for _, a := range spread() {
		for _, by := range spread() {
			for _, rest := range spread() {
				if rest >= by {
					continue
				}
				high, low := Mul(a, by)
				low, carry := Add(low, rest, false)
				high, over := Add(high, 0, carry)
				if q, r, ok := Div(high, low, by); q != a || r != rest || !ok || over {
					t.Fatalf("%d times %d and %d is %d, %d; Div = %d, %d, %t", a, by, rest, high, low, q, r, ok)
				}
			}
		}
	}
}

// P1.3: Choose by a Mask
func TestChooseByMask(t *testing.T) {
	for _, a := range spread() {
		for _, b := range spread() {
			if Choose(Mask(true), a, b) != a || Choose(Mask(false), a, b) != b {
				t.Fatalf("of %x and %x: %x, %x", a, b, Choose(Mask(true), a, b), Choose(Mask(false), a, b))
			}
		}
	}
}

// The document's examples of layer 1, and the README's.
func TestExamples(t *testing.T) {
	if got := fmt.Sprint(Add(top, 0, true)); got != "0 true" {
		t.Error(got)
	}
	if got := fmt.Sprint(Inverse(3)); got != "12297829382473034411 true" {
		t.Error(got)
	}
	high, low := Mul(1<<63, 6)
	if got := fmt.Sprint(Div(high, low+5, 6)); high != 3 || low != 0 || got != "9223372036854775808 5 true" {
		t.Error(high, low, got)
	}
}
