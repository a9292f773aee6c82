package lower

import (
	"fmt"
	"math/rand"
	"slices"
	"testing"

	"keysmith/alloc"
	"keysmith/api"
	"keysmith/limb"
	"keysmith/secrecy"
)

// edges are numbers at whose sums, products, shifts and bits something changes.
var edges = []uint64{0, 1, 2, 3, 1<<32 - 1, 1 << 32, 1<<63 - 1, 1 << 63, 1<<63 + 1, 1<<64 - 2, 1<<64 - 1}

func chance(n int64) *rand.Rand { return rand.New(rand.NewSource(n)) }

func edge(c *rand.Rand) uint64 {
	if c.Intn(4) == 0 {
		return c.Uint64()
	}
	return edges[c.Intn(len(edges))]
}

// limbs answers limbs at the edges.
func limbs(c *rand.Rand, n int) []uint64 {
	var l []uint64
	for range n {
		l = append(l, edge(c))
	}
	return l
}

// placed answers a program's code with its registers in places by hand: what may be kept in any place is right in each.
func placed(t *testing.T, p api.LimbProg, places []int) api.Code {
	t.Helper()
	if e := alloc.Check(p, pool, places); e != api.OK {
		t.Fatalf("%+v in %v: %d", p, places, e)
	}
	c, e := emitterOf(p, places).program().code()
	if e != api.OK {
		t.Fatalf("%+v in %v: %d", p, places, e)
	}
	return c
}

// In is in which buffer the numbers stand that a wrapped operation finds in its registers, Out where all registers come to.
const (
	numbersIn  = 0
	numbersOut = 1
)

// wrapped answers a program that loads so many registers, does operations, and stores each register.
func wrapped(regs int, l ...api.LimbOp) api.LimbProg {
	p := api.LimbProg{Regs: regs, Bufs: []api.Buf{{Size: regs, Kind: api.BufIn, Secret: true}, {Size: regs, Kind: api.BufOut, Secret: true}}}
	for r := range regs {
		p.Ops = append(p.Ops, load(r, -1, numbersIn, uint64(r)))
	}
	p.Ops = append(p.Ops, l...)
	for r := range regs {
		p.Ops = append(p.Ops, store(-1, r, numbersOut, uint64(r)))
	}
	return p
}

// everywhere holds a program with its registers in the pool and in slots, each way, with edges by chance.
func everywhere(t *testing.T, c *rand.Rand, p api.LimbProg, times int) {
	t.Helper()
	for waiting := range 1 << p.Regs {
		// Registers that must stay are tried, and those that need not.
		first := c.Intn(pool)
		places := make([]int, p.Regs)
		for r := range places {
			places[r] = (first + r) % pool
			if waiting>>r&1 == 1 {
				places[r] = -1 - r
			}
		}
		code := placed(t, p, places)
		var seen []api.Event
		for k := range times {
			l := does(t, p, code, [][]uint64{limbs(c, p.Regs), limbs(c, p.Regs)})
			if k > 0 && !slices.Equal(l, seen) {
				t.Fatalf("what is seen of %+v in %v hangs on what is secret", p, places)
			}
			seen = l
		}
	}
}

// patterns answers all ways in which so many operands may be one another's registers.
func patterns(operands int) [][]int {
	l := [][]int{nil}
	for range operands {
		var longer [][]int
		for _, one := range l {
			next := 0
			for _, r := range one {
				next = max(next, r+1)
			}
			for r := range next + 1 {
				longer = append(longer, append(slices.Clone(one), r))
			}
		}
		l = longer
	}
	return l
}

// P15.3: each kind, of registers that are unlike or the same, in the pool or in slots
func TestEachKind(t *testing.T) {
	for kind, how := range map[int]struct {
		operands int
		op       func(r []int) api.LimbOp
	}{
		api.LimbMove: {2, func(r []int) api.LimbOp { return move(r[0], r[1]) }},
		api.LimbShl:  {2, func(r []int) api.LimbOp { return shift(api.LimbShl, r[0], r[1], 1) }},
		api.LimbShr:  {2, func(r []int) api.LimbOp { return shift(api.LimbShr, r[0], r[1], 63) }},
		api.LimbAdd:  {3, func(r []int) api.LimbOp { return two(api.LimbAdd, r[0], r[1], r[2]) }},
		api.LimbSub:  {3, func(r []int) api.LimbOp { return two(api.LimbSub, r[0], r[1], r[2]) }},
		api.LimbAnd:  {3, func(r []int) api.LimbOp { return two(api.LimbAnd, r[0], r[1], r[2]) }},
		api.LimbOr:   {3, func(r []int) api.LimbOp { return two(api.LimbOr, r[0], r[1], r[2]) }},
		api.LimbXor:  {3, func(r []int) api.LimbOp { return two(api.LimbXor, r[0], r[1], r[2]) }},
		api.LimbMul:  {4, func(r []int) api.LimbOp { return mul(r[0], r[1], r[2], r[3]) }},
		api.LimbSel:  {4, func(r []int) api.LimbOp { return sel(r[0], r[1], r[2], r[3]) }},
		api.LimbAdc:  {5, func(r []int) api.LimbOp { return adc(r[0], r[1], r[2], r[3], r[4]) }},
		api.LimbSbb:  {5, func(r []int) api.LimbOp { return sbb(r[0], r[1], r[2], r[3], r[4]) }},
	} {
		t.Run(fmt.Sprint(kind), func(t *testing.T) {
			c := chance(int64(kind))
			for _, r := range patterns(how.operands) {
				o := how.op(r)
				if o.E >= 0 && o.D == o.E {
					continue
				}
				everywhere(t, c, wrapped(1+slices.Max(r), o), 4)
			}
		})
	}
}

// P15.3: constants, and shifts by all that may be
func TestConstantsAndShifts(t *testing.T) {
	c := chance(1)
	for _, imm := range append(edges, 1<<31-1, 1<<31, 1<<64-1<<31, 1<<64-1<<31-1) {
		everywhere(t, c, wrapped(1, constant(0, imm)), 1)
	}
	for n := uint64(1); n < 64; n++ {
		everywhere(t, c, wrapped(2, shift(api.LimbShl, 0, 0, n), shift(api.LimbShr, 1, 1, n)), 3)
	}
}

// P15.3: operations on all edges
func TestEdges(t *testing.T) {
	kinds := row(two(api.LimbAdd, 3, 0, 1), two(api.LimbSub, 3, 0, 1), mul(3, 4, 0, 1), adc(3, 4, 0, 1, 2), sbb(3, 4, 0, 1, 2), sel(3, 0, 1, 2))
	for _, o := range kinds {
		p := wrapped(5, o)
		code := compiles(t, p)
		for _, a := range edges {
			for _, b := range edges {
				for _, last := range []uint64{0, 1, 2, 1<<64 - 1} {
					out, _, _, e := Run(p, code, [][]uint64{{a, b, last, 5, 6}, limbs(chance(1), 5)})
					want, _, _ := limb.Run(p, [][]uint64{{a, b, last, 5, 6}, make([]uint64, 5)})
					if e != api.OK || !slices.Equal(out[1], want[1]) {
						t.Fatalf("%+v of %d, %d, %d: %v, not %v, %d", o, a, b, last, out, want, e)
					}
				}
			}
		}
	}
}

// P15.3: what is carried goes on as it should, whoever asks for it, and whatever stands between
func TestCarries(t *testing.T) {
	c := chance(2)
	between := [][]api.LimbOp{
		nil, row(move(4, 1)), row(constant(4, 5)), row(constant(4, 0)), row(constant(3, 5)), row(mul(4, 5, 0, 1)), row(mul(4, 3, 0, 1)), row(load(4, -1, 0, 0)), row(load(3, -1, 0, 0)),
		row(store(-1, 3, 1, 0)), row(store(-1, 4, 1, 0)), row(move(4, 3)), row(move(3, 4)), row(two(api.LimbAdd, 4, 0, 1)), row(two(api.LimbXor, 4, 4, 4)), row(sel(4, 1, 0, 3)), row(sel(4, 1, 0, 2)),
		row(shift(api.LimbShl, 4, 0, 9)), row(loop(6, 2), end), row(loop(6, 3), adc(1, 3, 1, 0, 3), end), row(adc(4, 5, 0, 1, 2)), row(sbb(3, 5, 0, 1, 2)), row(sbb(4, 2, 0, 1, 3)),
	}
	nexts := row(adc(4, 3, 0, 1, 3), adc(3, 4, 0, 1, 3), sbb(4, 5, 0, 1, 3), sbb(0, 3, 1, 0, 3), adc(4, 5, 3, 1, 3), adc(4, 5, 0, 3, 3), adc(4, 5, 3, 1, 2), sbb(3, 5, 3, 3, 3), sel(4, 0, 1, 3), move(4, 3))
	for _, first := range row(adc(2, 3, 0, 1, 5), sbb(2, 3, 0, 1, 3), adc(0, 3, 0, 0, 2), sbb(1, 3, 0, 1, 0)) {
		for _, l := range between {
			for _, next := range nexts {
				p := wrapped(6, slices.Concat(row(first), l, row(next))...)
				p.Regs = 7
				both(t, p, [][]uint64{limbs(c, 6), limbs(c, 6)}, [][]uint64{limbs(c, 6), limbs(c, 6)})
				// What is carried out at last is asked for by nobody.
				p.Ops = p.Ops[:len(p.Ops)-3]
				both(t, p, [][]uint64{limbs(c, 6), limbs(c, 6)}, [][]uint64{limbs(c, 6), limbs(c, 6)})
				p = wrapped(6, slices.Concat(row(constant(5, 0), loop(6, 3), first), l, row(next, end))...)
				p.Regs = 7
				if _, e := secrecy.Check(p); e == api.OK {
					both(t, p, [][]uint64{limbs(c, 6), limbs(c, 6)}, [][]uint64{limbs(c, 6), limbs(c, 6)})
				}
			}
		}
	}
}

// P15.3: long sums and rests, in one row and by a loop, up to the last carry
func TestLongSums(t *testing.T) {
	c := chance(3)
	const n = 12
	for _, kind := range []int{api.LimbAdc, api.LimbSbb} {
		bufs := []api.Buf{{Size: n, Kind: api.BufIn, Secret: true}, {Size: n, Kind: api.BufIn, Secret: true}, {Size: n + 1, Kind: api.BufOut, Secret: true}}
		step := api.LimbOp{Kind: kind, D: 1, E: 0, A: 1, B: 2, C: 0}
		straight := api.LimbProg{Regs: 4, Bufs: bufs, Ops: row(constant(0, 0))}
		for k := range uint64(n) {
			straight.Ops = append(straight.Ops, load(1, -1, 0, k), load(2, -1, 1, k), step, store(-1, 1, 2, k))
		}
		straight.Ops = append(straight.Ops, store(-1, 0, 2, n))
		round := api.LimbProg{Regs: 4, Bufs: bufs, Ops: row(constant(0, 0), loop(3, n), load(1, 3, 0, 0), load(2, 3, 1, 0), step, store(3, 1, 2, 0), end, store(-1, 0, 2, n))}
		for _, p := range []api.LimbProg{straight, round} {
			for range 20 {
				both(t, p, [][]uint64{limbs(c, n), limbs(c, n), limbs(c, n+1)}, [][]uint64{limbs(c, n), limbs(c, n), limbs(c, n+1)})
			}
			all, ones := slices.Repeat([]uint64{1<<64 - 1}, n), make([]uint64, n)
			ones[0] = 1
			both(t, p, [][]uint64{all, ones, limbs(c, n+1)}, [][]uint64{ones, all, limbs(c, n+1)})
			both(t, p, [][]uint64{make([]uint64, n), ones, limbs(c, n+1)}, [][]uint64{all, all, limbs(c, n+1)})
		}
	}
}
