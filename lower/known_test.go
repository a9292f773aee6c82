package lower

import (
	"math/rand"
	"slices"
	"testing"

	"keysmith/api"
	"keysmith/limb"
)

// about answers what is known of operations over program's registers, which may be, as lists.
func about(t *testing.T, l ...api.LimbOp) (even, bit []int, k known) {
	t.Helper()
	p := program(l...)
	if at, e := limb.Check(p); e != api.OK {
		t.Fatalf("%+v: %d, %d", l, at, e)
	}
	k = knownOf(p)
	for r := range p.Regs {
		makes := slices.ContainsFunc(l, func(o api.LimbOp) bool { return o.D == r || o.E == r })
		if makes && k.even.has(r) {
			even = append(even, r)
		}
		if makes && k.bits.has(r) {
			bit = append(bit, r)
		}
	}
	return even, bit, k
}

// What is known of registers: even is what has even constants alone, bits what has 0 and 1 alone.
func TestKnown(t *testing.T) {
	const and, or, xor, sub = api.LimbAnd, api.LimbOr, api.LimbXor, api.LimbSub
	of5 := load(5, -1, secretIn, 0)
	for _, c := range []struct {
		l         []api.LimbOp
		even, bit []int
	}{
		{nil, nil, nil},
		{row(constant(0, 0), constant(1, 1), constant(2, 2), constant(3, 3), constant(4, 1<<64-1), constant(63, 0)), []int{0, 2, 63}, []int{0, 1, 63}},
		{row(constant(0, 0), constant(0, 2)), []int{0}, nil},
		{row(constant(0, 0), constant(0, 1)), nil, []int{0}},
		{row(constant(0, 0), move(0, 0)), nil, []int{0}},
		{row(of5, constant(0, 0), move(0, 5)), nil, nil},
		{row(constant(0, 1), move(1, 0), move(2, 1), move(0, 2)), nil, []int{0, 1, 2}},
		{row(constant(0, 1), move(1, 0), move(2, 1), move(3, 2), constant(0, 2)), nil, nil},
		{row(of5, constant(0, 1), two(and, 1, 0, 5), two(and, 2, 5, 0), two(and, 3, 5, 5)), nil, []int{0, 1, 2}},
		{row(of5, constant(0, 1), two(or, 1, 0, 5), two(or, 2, 5, 0), two(or, 3, 0, 0)), nil, []int{0, 3}},
		{row(of5, constant(0, 1), two(xor, 1, 0, 5), two(xor, 2, 5, 0), two(xor, 3, 0, 0)), nil, []int{0, 3}},
		{row(of5, constant(0, 1), sel(1, 0, 5, 0), sel(2, 5, 0, 0), sel(3, 0, 0, 5)), nil, []int{0, 3}},
		{row(of5, constant(0, 1), two(sub, 1, 0, 0), two(api.LimbAdd, 2, 0, 0), shift(api.LimbShl, 3, 0, 1), mul(4, 6, 0, 0)), nil, []int{0}},
		{row(of5, adc(0, 1, 5, 5, 5), sbb(2, 3, 5, 5, 5)), nil, []int{1, 3}},
		{row(of5, adc(0, 1, 5, 5, 5), sbb(1, 0, 5, 5, 5)), nil, nil},
		{row(loop(0, 1), end, loop(1, 2), end, loop(2, 3), end), nil, []int{0, 1}},
	} {
		even, bit, _ := about(t, c.l...)
		if !slices.Equal(even, c.even) || !slices.Equal(bit, c.bit) {
			t.Errorf("of %+v: even %v, bits %v; not %v, %v", c.l, even, bit, c.even, c.bit)
		}
	}
}

// Which registers are needed ahead of each operation, of loops too
func TestNeeded(t *testing.T) {
	out := func(r int) api.LimbOp { return store(-1, r, secretOut, 0) }
	_, _, k := about(t, constant(0, 5), constant(63, 6), loop(1, 2), out(0), constant(2, 7), constant(0, 8), loop(3, 2), adc(4, 5, 63, 2, 2), end, out(2), end, out(5), constant(6, 6))
	want := []set{
		0, setOf(0), setOf(0, 63), setOf(0, 1, 63), setOf(1, 63), setOf(1, 2, 63), setOf(0, 1, 2, 63), setOf(0, 1, 2, 3, 63), setOf(0, 1, 2, 3, 5, 63), setOf(0, 1, 2, 5, 63), setOf(0, 1, 5, 63), setOf(5), 0, 0,
	}
	if !slices.Equal(k.needed, want) {
		t.Errorf("%v, not %v", k.needed, want)
	}
}

// Which operations hand CF on, and to which others
func TestHanded(t *testing.T) {
	first := row(load(0, -1, secretIn, 0), load(1, -1, secretIn, 1), constant(2, 3), adc(3, 4, 0, 1, 2))
	for _, c := range []struct {
		l  []api.LimbOp
		to int // -1: to none
	}{
		{row(adc(5, 6, 0, 1, 4)), 4},
		{row(sbb(5, 4, 0, 1, 4)), 4},
		{row(adc(4, 5, 0, 1, 4)), 4},
		{row(store(-1, 3, secretOut, 0), load(7, -1, secretIn, 0), move(8, 7), mul(9, 10, 7, 8), constant(11, 1), adc(5, 6, 0, 1, 4)), 9},
		{row(constant(11, 0), adc(5, 6, 0, 1, 4)), -1},
		{row(two(api.LimbAdd, 11, 0, 1), adc(5, 6, 0, 1, 4)), -1},
		{row(shift(api.LimbShr, 11, 0, 1), adc(5, 6, 0, 1, 4)), -1},
		{row(sel(11, 0, 1, 2), adc(5, 6, 0, 1, 4)), -1},
		{row(loop(11, 2), end, adc(5, 6, 0, 1, 4)), -1},
		{row(loop(11, 2), adc(5, 6, 0, 1, 4), end), -1},
		{row(adc(5, 6, 0, 1, 2), adc(5, 6, 0, 1, 4)), -1},
		{row(move(8, 4), adc(5, 6, 0, 1, 4)), -1},
		{row(move(4, 8), adc(5, 6, 0, 1, 4)), -1},
		{row(store(-1, 4, secretOut, 0), adc(5, 6, 0, 1, 4)), -1},
		{row(adc(5, 6, 4, 1, 4)), -1},
		{row(adc(5, 6, 0, 4, 4)), -1},
		{row(adc(5, 6, 0, 4, 2)), -1},
		{row(adc(5, 6, 0, 1, 4), store(-1, 4, secretOut, 0)), -1},
		{row(adc(5, 4, 0, 1, 4), store(-1, 4, secretOut, 0)), 4},
		{row(sel(5, 0, 1, 4)), -1},
		{nil, -1},
	} {
		l := slices.Concat(row(constant(8, 7)), first, c.l)
		_, _, k := about(t, l...)
		handed, found := make([]bool, len(l)), make([]bool, len(l))
		if c.to >= 0 {
			handed[4], found[c.to+1] = true, true
		}
		if handed[4] != k.handed[4] || c.to >= 0 && !slices.Equal(found, k.found) || c.to < 0 && slices.Contains(k.found, true) {
			t.Errorf("of %+v: handed %v, found %v; not %v, %v", l, k.handed, k.found, handed, found)
		}
	}
}

// P15.1: counts are right up to 2^50, and no more beyond
func TestCounts(t *testing.T) {
	const most = 1 << 50
	for _, c := range []struct {
		a    count
		n    uint64
		want count
	}{
		{5, 1, 5}, {0, 1 << 20, 0}, {1<<30 + 1<<10, 1<<20 - 1, most - 1024}, {1<<30 + 1<<10 + 1, 1<<20 - 1, most}, {1 << 30, 1 << 20, most}, {1<<30 - 1, 1 << 20, most - 1<<20},
		{most, 1, most}, {most - 1, 1, most - 1}, {most - 1, 2, most}, {most, 1 << 20, most}, {1 << 49, 2, most}, {1<<49 - 1, 2, most - 2}, {most / 3, 3, most - 1},
	} {
		if got := c.a.times(c.n); got != c.want {
			t.Errorf("%d times %d: %d, not %d", c.a, c.n, got, c.want)
		}
	}
	if count(most-1).plus(0) != most-1 || count(most-1).plus(1) != most || count(most).plus(most) != most || count(3).plus(4) != 7 {
		t.Error("sums")
	}
}

// makers answers operations that make a register in all the ways that something may be known of it; room is of three registers that nobody has.
func makers(c *rand.Rand, r int, room [3]int) []api.LimbOp {
	a, b, one := room[0], room[1], room[2]
	ahead := row(load(a, -1, numbersIn, uint64(r)), load(b, -1, numbersIn, 0), constant(one, 1))
	ways := []func() []api.LimbOp{
		func() []api.LimbOp { return row(load(r, -1, numbersIn, uint64(r))) },
		func() []api.LimbOp { return row(constant(r, 0)) },
		func() []api.LimbOp { return row(constant(r, 1)) },
		func() []api.LimbOp { return row(constant(r, 2)) },
		func() []api.LimbOp { return row(constant(r, 3)) },
		func() []api.LimbOp { return append(ahead, two(api.LimbAnd, r, a, one)) },
		func() []api.LimbOp { return append(ahead, two(api.LimbAnd, a, a, one), two(api.LimbXor, r, a, one)) },
		func() []api.LimbOp { return append(ahead, two(api.LimbOr, r, a, one)) },
		func() []api.LimbOp { return append(ahead, two(api.LimbXor, r, one, a)) },
		func() []api.LimbOp { return append(ahead, sel(r, a, one, b)) },
		func() []api.LimbOp { return append(ahead, sel(r, one, a, b)) },
		func() []api.LimbOp { return append(ahead, adc(a, r, a, b, one)) },
		func() []api.LimbOp { return append(ahead, adc(r, a, a, b, one)) },
		func() []api.LimbOp { return append(ahead, sbb(b, r, a, b, a)) },
		func() []api.LimbOp { return append(ahead, sbb(r, b, a, b, a)) },
		func() []api.LimbOp { return append(ahead, shift(api.LimbShr, r, a, 63)) },
		func() []api.LimbOp { return append(ahead, move(r, one)) },
	}
	return ways[c.Intn(len(ways))]()
}

// P15.3: whatever is known of what an operation takes, in the pool or in slots
func TestWhateverIsKnown(t *testing.T) {
	c := chance(10)
	for range 3000 {
		const regs = 5
		p := api.LimbProg{Regs: regs + 3, Bufs: []api.Buf{{Size: regs, Kind: api.BufIn, Secret: true}, {Size: regs, Kind: api.BufOut, Secret: true}}}
		for r := range regs {
			p.Ops = append(p.Ops, makers(c, r, [3]int{regs, regs + 1, regs + 2})...)
		}
		for range 1 + c.Intn(2) {
			r := func() int { return c.Intn(regs) }
			d, e := r(), r()
			p.Ops = append(p.Ops, sel(d, r(), r(), r()))
			if d != e {
				p.Ops[len(p.Ops)-1] = []api.LimbOp{adc(d, e, r(), r(), r()), sbb(d, e, r(), r(), r()), adc(d, e, r(), r(), e), sbb(d, e, r(), r(), e), sel(d, r(), r(), r())}[c.Intn(5)]
			}
		}
		for r := range regs {
			if c.Intn(5) > 0 {
				p.Ops = append(p.Ops, store(-1, r, numbersOut, uint64(r)))
			}
		}
		places := make([]int, p.Regs)
		for r := range places {
			places[r] = r
			if c.Intn(3) == 0 {
				places[r] = -1 - r
			}
		}
		code := placed(t, p, places)
		a, b := does(t, p, code, [][]uint64{limbs(c, regs), limbs(c, regs)}), does(t, p, code, [][]uint64{limbs(c, regs), limbs(c, regs)})
		if !slices.Equal(a, b) {
			t.Fatalf("what is seen of %+v in %v hangs on what is secret", p, places)
		}
	}
}

// P15.3: what nobody asks for behind an operation that carries it in may be spent, but nothing else
func TestSpent(t *testing.T) {
	c := chance(12)
	const carry, number, one = 4, 5, 6
	for _, kind := range []int{api.LimbAdc, api.LimbSbb} {
		for _, r := range patterns(4) {
			if r[0] == r[1] {
				continue
			}
			for _, made := range [][]api.LimbOp{row(two(api.LimbAnd, carry, number, one)), row(move(carry, number)), row(constant(carry, 6)), row(adc(number, carry, number, number, one))} {
				p := wrapped(4, slices.Concat(row(load(number, -1, numbersIn, 0), constant(one, 1)), made, row(api.LimbOp{Kind: kind, D: r[0], E: r[1], A: r[2], B: r[3], C: carry}))...)
				p.Regs = 7
				for _, places := range [][]int{{0, 1, 2, 3, 4, 5, 6}, {5, 6, 7, 8, -1, 10, 11}, {-1, -2, -3, -4, 4, 5, 6}, {-1, -2, -3, -4, -5, -6, -7}} {
					does(t, p, placed(t, p, places), [][]uint64{limbs(c, 4), limbs(c, 4)})
				}
			}
		}
	}
}

// P15.3: what is carried out at a loop's end is carried in at its beginning, and by the last register, too
func TestCarriesAround(t *testing.T) {
	c := chance(11)
	for _, carry := range []int{0, 9, 62, 63} {
		for _, l := range [][]api.LimbOp{
			row(adc(1, carry, 1, 2, carry)), row(sbb(1, carry, 1, 2, carry)), row(adc(1, carry, 1, 2, 3), adc(3, 4, 2, 3, carry)),
			row(adc(3, 4, 2, 3, carry), adc(1, carry, 1, 2, 2)), row(store(-1, carry, secretOut, 1), constant(4, 0), adc(1, carry, 1, 2, 2)), row(sel(3, 1, 2, carry), sbb(1, carry, 1, 2, 3)),
			row(adc(1, carry, 1, 2, 2), adc(1, carry, 1, 2, carry), move(2, 1)),
		} {
			p := program(slices.Concat(row(constant(carry, 1), load(1, -1, secretIn, 0), load(2, -1, secretIn, 1), load(3, -1, secretIn, 2), loop(20, 5)), l, row(end, store(-1, 1, secretOut, 2), store(-1, 3, secretOut, 0)))...)
			for range 8 {
				a, b := given(), given()
				a[secretIn], b[secretIn] = limbs(c, 3), limbs(c, 3)
				both(t, p, a, b)
			}
		}
	}
}
