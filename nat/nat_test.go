package nat

import (
	"fmt"
	"math"
	"math/big"
	"slices"
	"strings"
	"testing"

	"keysmith/api"
	"keysmith/word"
)

const top = 1<<64 - 1

// toBig answers the natural as the library's great number, against which all is held here.
func toBig(a api.Nat) *big.Int {
	n := new(big.Int)
	for _, x := range slices.Backward(a) {
		n.Lsh(n, 64).Or(n, new(big.Int).SetUint64(x))
	}
	return n
}

func fromBig(n *big.Int) api.Nat {
	var a api.Nat
	for n := new(big.Int).Set(n); n.Sign() > 0; n.Rsh(n, 64) {
		a = append(a, n.Uint64())
	}
	return a
}

// power answers 2 to the i and more.
func power(i int, more int64) api.Nat {
	n := new(big.Int).Lsh(big.NewInt(1), uint(i))
	return fromBig(n.Add(n, big.NewInt(more)))
}

// scatter answers limbs with bits all over, the same in each run.
func scatter(limbs int, x uint64) api.Nat {
	a := make(api.Nat, limbs)
	for i := range a {
		x = x*6364136223846793005 + 1442695040888963407
		a[i] = x ^ x>>29
	}
	return a
}

func repeat(limbs int, x uint64) api.Nat {
	return slices.Repeat(api.Nat{x}, limbs)
}

// numbers are naturals at which something is carried, borrowed or cut; some have noughts at their end.
func numbers() []api.Nat {
	l := []api.Nat{
		nil, {}, {0}, {0, 0, 0}, {1}, {2}, {3}, {10}, {7, 0}, {top}, {top - 1}, {1 << 63}, {1<<63 - 1}, {1<<63 + 1},
		{0, 1}, {1, 1}, {top, top}, {top - 1, top}, {0, top}, {top, 0, top}, {top, 1}, {0, 0, 1}, {0, 1 << 63}, {1, 0, 0, 1, 0},
		{5, 0, 0, 0}, repeat(5, top), repeat(4, 1), {0, 0, 0, 0, 1}, {top, top, top, 1 << 63},
	}
	for i := range 12 {
		l = append(l, scatter(i/2+1, uint64(i)))
	}
	for _, i := range []int{31, 32, 65, 127, 129, 200} {
		l = append(l, power(i, -1), power(i, 0), power(i, 1))
	}
	return l
}

// expect holds an answer, trimmed, against the number that it should be.
func expect(t *testing.T, call string, got api.Nat, want *big.Int) {
	t.Helper()
	if !slices.Equal(got, fromBig(want)) {
		t.Fatalf("%s = %x, not %x", call, got, fromBig(want))
	}
}

// P2.1: Trim
func TestTrim(t *testing.T) {
	for _, c := range []struct{ a, want api.Nat }{
		{nil, nil}, {api.Nat{}, nil}, {api.Nat{0}, nil}, {api.Nat{0, 0, 0}, nil},
		{api.Nat{5}, api.Nat{5}}, {api.Nat{5, 0}, api.Nat{5}}, {api.Nat{0, 5, 0, 0}, api.Nat{0, 5}},
		{api.Nat{0, 0, 1}, api.Nat{0, 0, 1}}, {api.Nat{1, 0, 2, 0}, api.Nat{1, 0, 2}},
	} {
		if got := Trim(c.a); !slices.Equal(got, c.want) {
			t.Errorf("Trim(%d) = %d, not %d", c.a, got, c.want)
		}
	}
}

// P2.1: Fit
func TestFit(t *testing.T) {
	whole := repeat(api.MaxLimbs, top)
	for _, c := range []struct {
		a     api.Nat
		limbs int
		want  api.Nat
		e     api.Errno
	}{
		{nil, 0, nil, api.OK},
		{api.Nat{0, 0}, 0, nil, api.OK},
		{nil, 3, api.Nat{0, 0, 0}, api.OK},
		{api.Nat{5}, 1, api.Nat{5}, api.OK},
		{api.Nat{5}, 3, api.Nat{5, 0, 0}, api.OK},
		{api.Nat{5, 0, 0}, 2, api.Nat{5, 0}, api.OK},
		{api.Nat{5, 0, 0}, 1, api.Nat{5}, api.OK},
		{api.Nat{5, 6, 7}, 3, api.Nat{5, 6, 7}, api.OK},
		{whole, api.MaxLimbs, whole, api.OK},
		{append(slices.Clone(whole), 0, 0), api.MaxLimbs, whole, api.OK},
		{nil, api.MaxLimbs, repeat(api.MaxLimbs, 0), api.OK},
		{api.Nat{5}, 0, nil, api.ErrLong},
		{api.Nat{5, 6}, 1, nil, api.ErrLong},
		{api.Nat{0, 0, 1, 0}, 2, nil, api.ErrLong},
		{append(slices.Clone(whole), 1), api.MaxLimbs, nil, api.ErrLong},
		{api.Nat{5}, -1, nil, api.ErrArg},
		{nil, -1, nil, api.ErrArg},
		{nil, api.MaxLimbs + 1, nil, api.ErrArg},
		{append(slices.Clone(whole), 1, 1), api.MaxLimbs + 1, nil, api.ErrArg},
		{nil, math.MinInt, nil, api.ErrArg},
		{nil, math.MaxInt, nil, api.ErrArg},
	} {
		if got, e := Fit(c.a, c.limbs); !slices.Equal(got, c.want) || e != c.e {
			t.Errorf("Fit of %d limbs, %d: %d limbs, %d, not %d, %d", len(c.a), c.limbs, len(got), e, len(c.want), c.e)
		}
	}
}

// P2.1: Compare
func TestCompareTable(t *testing.T) {
	for _, c := range []struct {
		a, b api.Nat
		want int
	}{
		{nil, nil, 0}, {nil, api.Nat{0, 0}, 0}, {api.Nat{0}, api.Nat{}, 0},
		{nil, api.Nat{1}, -1}, {api.Nat{1}, nil, 1},
		{api.Nat{5}, api.Nat{5, 0, 0}, 0}, {api.Nat{5, 0, 0}, api.Nat{5}, 0},
		{api.Nat{top}, api.Nat{0, 1}, -1}, {api.Nat{0, 1}, api.Nat{top}, 1},
		{api.Nat{top, 0, 0}, api.Nat{0, 1}, -1}, {api.Nat{0, 1}, api.Nat{top, 0, 0}, 1},
		{api.Nat{9, 1}, api.Nat{1, 2}, -1}, {api.Nat{1, 2}, api.Nat{9, 1}, 1},
		{api.Nat{1, 7}, api.Nat{2, 7}, -1}, {api.Nat{2, 7}, api.Nat{1, 7}, 1},
		{api.Nat{1 << 63}, api.Nat{1}, 1}, {api.Nat{1}, api.Nat{top}, -1},
	} {
		if got := Compare(c.a, c.b); got != c.want {
			t.Errorf("Compare(%d, %d) = %d, not %d", c.a, c.b, got, c.want)
		}
	}
}

// P2.1: Compare
func TestCompareIsTheOrder(t *testing.T) {
	for _, a := range numbers() {
		for _, b := range numbers() {
			if got := Compare(a, b); got != toBig(a).Cmp(toBig(b)) {
				t.Fatalf("Compare(%x, %x) = %d", a, b, got)
			}
		}
	}
}

// P2.1: Add
func TestAddIsTheSum(t *testing.T) {
	for _, a := range numbers() {
		for _, b := range numbers() {
			want := new(big.Int).Add(toBig(a), toBig(b))
			expect(t, fmt.Sprintf("Add(%x, %x)", a, b), Add(a, b), want)
		}
	}
}

// P2.1: Add, carried through all limbs
func TestAddCarries(t *testing.T) {
	for _, limbs := range []int{1, 2, 5, api.MaxLimbs, 2*api.MaxLimbs + 1} {
		want := append(repeat(limbs, 0), 1)
		if got := Add(repeat(limbs, top), api.Nat{1}); !slices.Equal(got, want) {
			t.Errorf("of %d limbs: %x", limbs, got)
		}
		if got := Add(api.Nat{1}, repeat(limbs, top)); !slices.Equal(got, want) {
			t.Errorf("of %d limbs, turned: %x", limbs, got)
		}
	}
}

// P2.1: Sub, and its ErrArg
func TestSubIsTheDifference(t *testing.T) {
	for _, a := range numbers() {
		for _, b := range numbers() {
			got, e := Sub(a, b)
			want := new(big.Int).Sub(toBig(a), toBig(b))
			if want.Sign() < 0 {
				if e != api.ErrArg || len(got) != 0 {
					t.Fatalf("Sub(%x, %x) = %x, %d", a, b, got, e)
				}
				continue
			}
			expect(t, fmt.Sprintf("Sub(%x, %x)", a, b), got, want)
			if e != api.OK {
				t.Fatalf("Sub(%x, %x): error %d", a, b, e)
			}
		}
	}
}

// P2.1: Sub, borrowed through all limbs
func TestSubBorrows(t *testing.T) {
	for _, limbs := range []int{1, 2, 5, api.MaxLimbs, 2*api.MaxLimbs + 1} {
		a := append(repeat(limbs, 0), 1)
		if got, e := Sub(a, api.Nat{1}); !slices.Equal(got, repeat(limbs, top)) || e != api.OK {
			t.Errorf("of %d limbs: %x, %d", limbs, got, e)
		}
		if got, e := Sub(repeat(limbs, top), a); len(got) != 0 || e != api.ErrArg {
			t.Errorf("of %d limbs, turned: %x, %d", limbs, got, e)
		}
	}
}

// P2.1: Mul
func TestMulIsTheProduct(t *testing.T) {
	for _, a := range numbers() {
		for _, b := range numbers() {
			want := new(big.Int).Mul(toBig(a), toBig(b))
			expect(t, fmt.Sprintf("Mul(%x, %x)", a, b), Mul(a, b), want)
		}
	}
}

// P2.1: Mul of the greatest numbers, in which everything is carried
func TestMulOfTheGreatest(t *testing.T) {
	for _, n := range []int{1, 2, 3, 17, api.MaxLimbs} {
		for _, m := range []int{1, 2, 16, api.MaxLimbs} {
			a, b := repeat(n, top), repeat(m, top)
			want := new(big.Int).Mul(toBig(a), toBig(b))
			expect(t, fmt.Sprintf("Mul of %d and %d limbs", n, m), Mul(a, b), want)
		}
	}
}

// divided holds Div's answers against the library's, and against what follows (P2.3).
func divided(t *testing.T, a, by api.Nat) {
	t.Helper()
	call := fmt.Sprintf("Div(%x, %x)", a, by)
	q, r, e := Div(a, by)
	if e != api.OK {
		t.Fatalf("%s: error %d", call, e)
	}
	wantQ, wantR := new(big.Int).QuoRem(toBig(a), toBig(by), new(big.Int))
	expect(t, "quotient of "+call, q, wantQ)
	expect(t, "rest of "+call, r, wantR)
	if got := Add(Mul(q, by), r); Compare(got, a) != 0 || Compare(r, by) >= 0 {
		t.Fatalf("%s = %x, %x: together %x", call, q, r, got)
	}
}

// P2.1, P2.3: Div, and its ErrArg
func TestDivIsQuotientAndRest(t *testing.T) {
	for _, a := range numbers() {
		for _, by := range numbers() {
			if toBig(by).Sign() > 0 {
				divided(t, a, by)
			} else if q, r, e := Div(a, by); len(q) != 0 || len(r) != 0 || e != api.ErrArg {
				t.Fatalf("Div(%x, %x) = %x, %x, %d", a, by, q, r, e)
			}
		}
	}
}

// P2.1, P2.3: Div where the quotient's bits begin and end at a limb's edge, and the rest doubled needs one more limb
func TestDivAtLimbEdges(t *testing.T) {
	for i := 60; i <= 132; i++ {
		for j := 60; j <= 132; j++ {
			for _, more := range []int64{-1, 0, 1} {
				divided(t, power(i, more), power(j, -1))
				divided(t, power(i, more), power(j, 0))
				divided(t, power(i, more), power(j, 1))
			}
		}
	}
}

// P2.1, P2.3: Div of products and what lies beside them
func TestDivBesideProducts(t *testing.T) {
	for _, q := range numbers() {
		for _, by := range numbers() {
			if toBig(by).Sign() == 0 {
				continue
			}
			a := Mul(q, by)
			divided(t, a, by)
			divided(t, Add(a, api.Nat{1}), by)
			if below, e := Sub(a, api.Nat{1}); e == api.OK {
				divided(t, below, by)
			}
		}
	}
}

// P2.1, P2.3: Div of long numbers
func TestDivOfLongNumbers(t *testing.T) {
	for _, c := range []struct{ n, m int }{
		{api.MaxLimbs, api.MaxLimbs}, {2 * api.MaxLimbs, api.MaxLimbs}, {2 * api.MaxLimbs, 1}, {api.MaxLimbs, 17}, {1, api.MaxLimbs},
	} {
		divided(t, scatter(c.n, 3), scatter(c.m, 4))
	}
	divided(t, repeat(2*api.MaxLimbs, top), repeat(api.MaxLimbs, top))
	divided(t, repeat(api.MaxLimbs, top), append(repeat(3, 0), 1<<63))
}

// P2.2: Bits
func TestBits(t *testing.T) {
	for _, c := range []struct {
		a    api.Nat
		want int
	}{
		{nil, 0}, {api.Nat{0, 0}, 0}, {api.Nat{1}, 1}, {api.Nat{5}, 3}, {api.Nat{top}, 64}, {api.Nat{0, 1}, 65},
		{api.Nat{0, 1, 0}, 65}, {api.Nat{top, 1 << 63}, 128}, {repeat(api.MaxLimbs, top), 64 * api.MaxLimbs},
	} {
		if got := Bits(c.a); got != c.want {
			t.Errorf("Bits(%x) = %d, not %d", c.a, got, c.want)
		}
	}
	for i := range 200 {
		if got := Bits(power(i, 0)); got != i+1 {
			t.Errorf("Bits of 2^%d: %d", i, got)
		}
		if got := Bits(power(i, -1)); got != i {
			t.Errorf("Bits of 2^%d - 1: %d", i, got)
		}
	}
}

// P2.2: Bit
func TestBit(t *testing.T) {
	for _, a := range numbers() {
		for i := range 64*len(a) + 130 {
			if got := Bit(a, i); got != (toBig(a).Bit(i) == 1) {
				t.Fatalf("Bit(%x, %d) = %t", a, i, got)
			}
		}
	}
	ones := repeat(3, top)
	for _, i := range []int{-1, -64, -65, 192, math.MinInt, math.MaxInt} {
		if Bit(ones, i) || Bit(nil, i) {
			t.Errorf("bit %d is 1", i)
		}
	}
}

// P2.2: Low
func TestLow(t *testing.T) {
	for _, c := range []struct {
		a     api.Nat
		limbs int
		want  api.Nat
	}{
		{api.Nat{7, 0, 3}, 0, nil}, {api.Nat{7, 0, 3}, 1, api.Nat{7}}, {api.Nat{7, 0, 3}, 2, api.Nat{7}},
		{api.Nat{7, 0, 3}, 3, api.Nat{7, 0, 3}}, {api.Nat{7, 0, 3}, 4, api.Nat{7, 0, 3}}, {api.Nat{7, 0, 3, 0, 0}, 4, api.Nat{7, 0, 3}},
		{api.Nat{7, 0, 3}, math.MaxInt, api.Nat{7, 0, 3}}, {api.Nat{7, 0, 3}, -1, nil}, {api.Nat{7, 0, 3}, math.MinInt, nil},
		{nil, 5, nil}, {nil, -5, nil}, {api.Nat{0, 0, 3}, 2, nil}, {repeat(600, 1), 513, repeat(513, 1)},
	} {
		if got := Low(c.a, c.limbs); !slices.Equal(got, c.want) {
			t.Errorf("Low(%d, %d) = %d, not %d", c.a, c.limbs, got, c.want)
		}
	}
	for _, a := range numbers() {
		for limbs := range 8 {
			want := new(big.Int).Mod(toBig(a), new(big.Int).Lsh(big.NewInt(1), uint(64*limbs)))
			expect(t, fmt.Sprintf("Low(%x, %d)", a, limbs), Low(a, limbs), want)
		}
	}
}

// P2.2: Text
func TestText(t *testing.T) {
	for _, c := range []struct {
		a    api.Nat
		want string
	}{
		{nil, "0"}, {api.Nat{0, 0}, "0"}, {api.Nat{9}, "9"}, {api.Nat{10}, "a"}, {api.Nat{15, 0}, "f"}, {api.Nat{16}, "10"},
		{api.Nat{top}, "ffffffffffffffff"}, {api.Nat{0, 1}, "10000000000000000"},
		{api.Nat{0x0123456789abcdef, 0xfedcba9876543210}, "fedcba98765432100123456789abcdef"},
		{api.Nat{1, 0, 0x10}, "10" + strings.Repeat("0", 31) + "1"},
	} {
		if got := Text(c.a); got != c.want {
			t.Errorf("Text(%x) = %q, not %q", c.a, got, c.want)
		}
	}
	for _, a := range append(numbers(), scatter(2*api.MaxLimbs, 9)) {
		if got := Text(a); got != toBig(a).Text(16) {
			t.Fatalf("Text(%x) = %q", a, got)
		}
	}
}

// P2.2: Read
func TestRead(t *testing.T) {
	for _, c := range []struct {
		s    string
		want api.Nat
	}{
		{"0", nil}, {"0000", nil}, {"1", api.Nat{1}}, {"9", api.Nat{9}}, {"a", api.Nat{10}}, {"F", api.Nat{15}}, {"00Ff", api.Nat{255}},
		{"0123456789abcdef", api.Nat{0x0123456789abcdef}}, {"ABCDEF", api.Nat{0xabcdef}}, {"aBcDeF", api.Nat{0xabcdef}},
		{"ffffffffffffffff", api.Nat{top}}, {"10000000000000000", api.Nat{0, 1}}, {"100000000000000000", api.Nat{0, 16}},
		{strings.Repeat("0", 1<<16) + "5", api.Nat{5}},
		{strings.Repeat("f", 16*api.MaxLimbs), repeat(api.MaxLimbs, top)},
		{"000" + strings.Repeat("f", 16*api.MaxLimbs), repeat(api.MaxLimbs, top)},
	} {
		if got, e := Read(c.s); !slices.Equal(got, c.want) || e != api.OK {
			t.Errorf("Read of %d digits = %x, %d, not %x", len(c.s), got, e, c.want)
		}
	}
}

// P2.2: Read of what is no natural, and the order of its errors
func TestReadErrors(t *testing.T) {
	long := "1" + strings.Repeat("0", 16*api.MaxLimbs)
	for _, c := range []struct {
		s string
		e api.Errno
	}{
		{"", api.ErrArg},
		{" ", api.ErrText}, {"g", api.ErrText}, {"G", api.ErrText}, {"1g", api.ErrText}, {"g1", api.ErrText}, {"/", api.ErrText}, {":", api.ErrText},
		{"@", api.ErrText}, {"`", api.ErrText}, {"0x1", api.ErrText}, {"-1", api.ErrText}, {"+1", api.ErrText}, {"1_0", api.ErrText}, {" 1", api.ErrText},
		{"1\n", api.ErrText}, {"1\x00", api.ErrText}, {"\xff", api.ErrText}, {"é", api.ErrText}, {"١", api.ErrText}, {"１", api.ErrText},
		{long, api.ErrLong}, {"00" + long, api.ErrLong}, {long + long, api.ErrLong},
		{long + "g", api.ErrText}, {"g" + long, api.ErrText},
	} {
		if got, e := Read(c.s); len(got) != 0 || e != c.e {
			t.Errorf("Read(%.20q) = %x, %d, not %d", c.s, got, e, c.e)
		}
	}
	for c := range 256 {
		_, e := Read("1" + string([]byte{byte(c)}))
		if ok := strings.IndexByte("0123456789abcdefABCDEF", byte(c)) >= 0; ok != (e == api.OK) || !ok && e != api.ErrText {
			t.Errorf("Read of the byte %d: %d", c, e)
		}
	}
}

// P2.3: Text and Read undo each other
func TestTextAndReadUndoEachOther(t *testing.T) {
	for _, a := range append(numbers(), scatter(api.MaxLimbs, 5), repeat(api.MaxLimbs, top)) {
		for _, s := range []string{Text(a), strings.ToUpper(Text(a)), "0" + Text(a)} {
			if got, e := Read(s); !slices.Equal(got, fromBig(toBig(a))) || e != api.OK {
				t.Fatalf("Read(%q) = %x, %d, not %x", s, got, e, a)
			}
		}
	}
	for _, s := range []string{"0", "1", "f", "10", "fedcba987", "123456789abcdef0123456789abcdef", strings.Repeat("8", 16*api.MaxLimbs)} {
		if a, e := Read(s); Text(a) != s || e != api.OK {
			t.Errorf("Text of Read(%q) = %q, %d", s, Text(a), e)
		}
	}
}

// spoil writes over an answer, its spare room too.
func spoil(l []api.Nat) {
	for _, a := range l {
		for i := range a[:cap(a)] {
			a[:cap(a)][i] = 0xdead
		}
	}
}

// DOC.md's rule 3: nothing that is handed in is changed or handed out, its spare room neither read nor written.
func TestAnswersAreNewMemory(t *testing.T) {
	calls := map[string]func(a, b api.Nat) []api.Nat{
		"Trim":    func(a, b api.Nat) []api.Nat { return []api.Nat{Trim(a)} },
		"Fit":     func(a, b api.Nat) []api.Nat { f, _ := Fit(a, len(a)); return []api.Nat{f} },
		"FitMore": func(a, b api.Nat) []api.Nat { f, _ := Fit(a, len(a)+2); return []api.Nat{f} },
		"Add":     func(a, b api.Nat) []api.Nat { return []api.Nat{Add(a, b)} },
		"Sub":     func(a, b api.Nat) []api.Nat { d, _ := Sub(a, b); return []api.Nat{d} },
		"Mul":     func(a, b api.Nat) []api.Nat { return []api.Nat{Mul(a, b)} },
		"Div":     func(a, b api.Nat) []api.Nat { q, r, _ := Div(a, b); return []api.Nat{q, r} },
		"Low":     func(a, b api.Nat) []api.Nat { return []api.Nat{Low(a, 2)} },
		"LowAll":  func(a, b api.Nat) []api.Nat { return []api.Nat{Low(a, len(a))} },
		"Others": func(a, b api.Nat) []api.Nat {
			text, _ := Read(Text(a))
			return []api.Nat{{uint64(Compare(a, b) + 1), uint64(Bits(a)), word.Mask(Bit(a, 64*len(a)))}, text}
		},
	}
	for name, call := range calls {
		for _, x := range numbers() {
			for _, y := range append(numbers(), x) {
				under := append(slices.Clone(x), 7, 7, 7)
				beside := append(slices.Clone(y), 9, 9, 9)
				a, b := under[:len(x)], beside[:len(y)]
				want := fmt.Sprint(call(slices.Clip(slices.Clone(x)), slices.Clip(slices.Clone(y))))
				got := call(a, b)
				if fmt.Sprint(got) != want {
					t.Fatalf("%s of %x, %x: spare room was read: %x, not %s", name, x, y, got, want)
				}
				spoil(got)
				if !slices.Equal(under, append(slices.Clone(x), 7, 7, 7)) || !slices.Equal(beside, append(slices.Clone(y), 9, 9, 9)) {
					t.Fatalf("%s of %x, %x: what was handed in is now %x, %x", name, x, y, under, beside)
				}
			}
		}
	}
}

// DOC.md's rule 3: quotient and rest share nothing; one number may be handed in twice.
func TestListsShareNothing(t *testing.T) {
	a := scatter(4, 1)
	q, r, _ := Div(a, api.Nat{5, 6})
	want := slices.Clone(r)
	spoil([]api.Nat{q})
	if !slices.Equal(r, want) {
		t.Error("quotient and rest share memory")
	}
	n := toBig(a)
	expect(t, "twice", Add(a, a), new(big.Int).Lsh(n, 1))
	expect(t, "square", Mul(a, a), new(big.Int).Mul(n, n))
	d, _ := Sub(a, a)
	expect(t, "nothing", d, new(big.Int))
	q, r, _ = Div(a, a)
	expect(t, "once", q, big.NewInt(1))
	expect(t, "no rest", r, new(big.Int))
}

// The document's examples of layer 2, and the README's.
func TestExamples(t *testing.T) {
	if got := Mul(api.Nat{top}, api.Nat{top}); !slices.Equal(got, api.Nat{1, top - 1}) {
		t.Error(got)
	}
	if got := Add(api.Nat{top}, api.Nat{1}); !slices.Equal(got, api.Nat{0, 1}) {
		t.Error(got)
	}
	if a, e := Read("00Ff"); Text(a) != "ff" || e != api.OK {
		t.Error(a, e)
	}
	a, _ := Read("10000000000000000")
	q, r, e := Div(a, api.Nat{10})
	if Text(q) != "1999999999999999" || Text(r) != "6" || e != api.OK {
		t.Error(q, r, e)
	}
	if got := Text(Mul(a, a)); got != "1"+strings.Repeat("0", 32) {
		t.Error(got)
	}
}
