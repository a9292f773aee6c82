package lower

import (
	"slices"
	"testing"

	"keysmith/api"
	"keysmith/limb"
)

// P15.3: a loop's register as each operand, in the pool or in a slot, in loops of few times and of many
func TestCounters(t *testing.T) {
	c := chance(4)
	in := api.Buf{Size: 9, Kind: api.BufIn, Secret: true}
	for _, times := range []uint64{1, 2, 3, 9} {
		for _, o := range row(
			move(1, 0), two(api.LimbAdd, 1, 0, 1), two(api.LimbAdd, 1, 1, 0), two(api.LimbSub, 1, 0, 1), two(api.LimbSub, 1, 1, 0), two(api.LimbSub, 1, 0, 0), two(api.LimbXor, 1, 0, 0),
			two(api.LimbAnd, 1, 0, 2), shift(api.LimbShl, 1, 0, 63), shift(api.LimbShr, 1, 0, 1), mul(1, 2, 0, 0), mul(1, 2, 0, 1), mul(2, 1, 1, 0),
			adc(1, 2, 0, 1, 2), adc(1, 2, 1, 0, 2), adc(1, 2, 1, 2, 0), adc(1, 2, 0, 0, 0), sbb(1, 2, 0, 1, 2), sbb(1, 2, 1, 0, 2), sbb(1, 2, 1, 2, 0), sbb(2, 1, 0, 0, 0),
			sel(1, 0, 2, 1), sel(1, 2, 0, 1), sel(1, 2, 1, 0), sel(1, 0, 0, 0), sel(1, 1, 0, 2),
			load(1, 0, 0, 0), load(1, 0, 2, 0), store(0, 1, 2, 0), store(0, 0, 2, 0), store(-1, 0, 2, 4), constant(1, 9),
		) {
			p := api.LimbProg{Regs: 3, Bufs: []api.Buf{in, {Size: 3, Kind: api.BufOut, Secret: true}, {Size: 9, Kind: api.BufTmp, Secret: true}}}
			p.Ops = row(load(1, -1, 0, 0), load(2, -1, 0, 1), loop(0, times), o, end, store(-1, 1, 1, 1), store(-1, 2, 1, 2))
			everywhereOf(t, p, func() [][]uint64 { return [][]uint64{limbs(c, 9), limbs(c, 3), nil} })
		}
	}
}

// everywhereOf holds a program over three registers with each of them in the pool or in a slot.
func everywhereOf(t *testing.T, p api.LimbProg, rows func() [][]uint64) {
	t.Helper()
	for waiting := range 8 {
		places := []int{0, 6, 11}
		for r := range places {
			if waiting>>r&1 == 1 {
				places[r] = r - 3
			}
		}
		c := placed(t, p, places)
		a, b := does(t, p, c, rows()), does(t, p, c, rows())
		if !slices.Equal(a, b) {
			t.Fatalf("what is seen of %+v in %v hangs on what is secret", p, places)
		}
	}
}

// P15.3: limbs' places go round at 2^64, wherever their number and their register come from
func TestPlacesGoRound(t *testing.T) {
	bufs := []api.Buf{{Size: 4, Kind: api.BufIn, Secret: true}, {Size: 5, Kind: api.BufOut, Secret: true}}
	c := chance(5)
	rows := func() [][]uint64 { return [][]uint64{limbs(c, 4), limbs(c, 5)} }
	for _, imm := range []uint64{0, 1, 3, 1<<28 - 7, 1<<28 - 6, 1<<28 - 5, 1<<28 - 4, 1<<28 - 1, 1 << 28, 1<<28 + 1, 1<<64 - 1<<28 - 6, 1<<64 - 1<<28 - 4, 1<<64 - 1<<28 - 1, 1<<64 - 1<<28, 1<<64 - 1<<28 + 1, 1 << 32, 1<<32 + 1, 1 << 60, 1 << 61, 1<<61 + 2, 1<<63 + 1, 1<<64 - 1<<61, 1<<64 - 1} {
		for place := range uint64(4) {
			// A constant far away, and one that a loop counts on from there.
			p := api.LimbProg{Regs: 3, Bufs: bufs, Ops: row(
				constant(0, place-imm), load(1, 0, 0, imm), constant(2, 1-imm), two(api.LimbAdd, 2, 2, 0), two(api.LimbSub, 0, 2, 0), two(api.LimbSub, 2, 2, 0), constant(0, place-imm), store(0, 1, 1, imm),
			)}
			everywhereOf(t, p, rows)
			p.Ops = row(constant(2, place-imm), load(1, 2, 0, imm), store(2, 2, 1, imm), load(2, 2, 0, imm), store(-1, 2, 1, 4))
			everywhereOf(t, p, rows)
			p.Ops = row(constant(1, place-imm), loop(0, 1), two(api.LimbAdd, 2, 1, 0), store(2, 2, 1, imm), end)
			everywhereOf(t, p, rows)
		}
	}
	// A loop's register is far enough for none of these, but for what goes round.
	for _, imm := range []uint64{0, 1, 2} {
		p := api.LimbProg{Regs: 3, Bufs: bufs, Ops: row(loop(0, 2), load(1, 0, 0, imm), store(0, 1, 1, imm), end)}
		everywhereOf(t, p, rows)
	}
}

// P15.3: a limb's place may hang on what is handed in, if that is public; then it is seen.
func TestPublicPlaces(t *testing.T) {
	p := program(load(0, -1, publicIn, 0), load(1, 0, secretIn, 0), store(0, 1, secretOut, 0), store(0, 0, publicTmp, 1<<64-1))
	p.Bufs[publicTmp].Size = 1
	var seen [][]api.Event
	for k := range uint64(3) {
		p.Ops[3].Imm = -k
		a, b := given(), given()
		a[publicIn][0], b[publicIn][0] = k, k
		b[secretIn], b[secretOut] = []uint64{7, 8, 9}, []uint64{1, 1, 1}
		seen = append(seen, does(t, p, both(t, p, a, b), a))
	}
	if len(slices.CompactFunc(seen, slices.Equal[[]api.Event])) != 3 {
		t.Error("what is seen does not hang on what is public")
	}
}

// nest answers loops in one another, all registers of which are counted together, with what stands in the innermost one.
func nest(times uint64, deep int, inner ...api.LimbOp) []api.LimbOp {
	var l []api.LimbOp
	for r := range deep {
		l = append(l, loop(r, times))
	}
	return append(append(l, inner...), slices.Repeat(row(end), deep)...)
}

// P15.3: loops in one another, one behind the other, with registers again
func TestNests(t *testing.T) {
	c := chance(6)
	for deep := range 9 {
		var sums []api.LimbOp
		for r := range deep {
			sums = append(sums, two(api.LimbAdd, 20, 20, 20), two(api.LimbAdd, 20, 20, r))
		}
		p := program(slices.Concat(row(constant(20, 1)), nest(2, deep, sums...), nest(3, min(deep, 4), sums[:2*min(deep, 4)]...), row(store(-1, 20, publicOut, 0)))...)
		for regs := range 3 {
			q := limb.Copy(p)
			// More that is held all along pushes the loops' registers into slots.
			for r := range 12 * regs {
				q.Ops = slices.Concat(row(load(30+r, -1, secretIn, uint64(r%3))), q.Ops, row(store(-1, 30+r, secretOut, 0)))
			}
			b := given()
			b[secretIn], b[secretOut] = limbs(c, 3), limbs(c, 3)
			both(t, q, given(), b)
		}
	}
	// Behind its end a loop's register is one as others.
	p := program(loop(0, 3), end, constant(0, 5), move(1, 0), store(-1, 0, publicOut, 0), loop(2, 2), loop(3, 3), end, constant(3, 9), store(-1, 3, publicOut, 2), store(2, 1, publicOut, 1), end)
	both(t, p, given(), given())
}

// crowded answers a program that holds all 64 registers at once, in a loop.
func crowded() api.LimbProg {
	p := program(loop(63, 3))
	for r := range 63 {
		p.Ops = append(p.Ops, load(r, -1, secretIn, uint64(r%3)))
	}
	for r := range 62 {
		p.Ops = append(p.Ops, adc(r, r+1, r, r+1, (r+7)%63), sel(62-r, r, 62-r, 5), mul(r, 62-r/2, r, 40), store(63, r, secretOut, 0))
	}
	p.Ops = append(p.Ops, end)
	p.Ops = slices.DeleteFunc(p.Ops, func(o api.LimbOp) bool { return o.D >= 0 && o.D == o.E })
	return p
}

// P15.1, P15.3: all registers at once, with all limbs of BufTmp noughts at first
func TestCrowd(t *testing.T) {
	c := chance(7)
	p := crowded()
	for range 5 {
		b := given()
		b[secretIn], b[secretOut] = limbs(c, 3), limbs(c, 3)
		both(t, p, given(), b)
	}
	p = program(load(0, -1, secretTmp, 2), load(1, -1, publicTmp, 0), store(-1, 0, secretOut, 0), store(-1, 1, publicOut, 0), constant(2, 7), store(-1, 2, secretTmp, 1), store(-1, 2, publicTmp, 2))
	both(t, p, given(), given())
}

// stepsOf answers how many steps are told of loops in one another, each so many times.
func stepsOf(t *testing.T, times ...uint64) int {
	t.Helper()
	var l []api.LimbOp
	for k, n := range times {
		// All that stands in these is done as often as they go round; what is taken from their registers hangs on no number.
		l = append(l, loop(k, n), load(20, -1, secretIn, 0))
	}
	for range times {
		l = append(l, store(-1, 20, secretOut, 1), end)
	}
	return compiles(t, program(l...)).Steps
}

// P15.1: Steps of loops that no run could wait for grow with each loop's times as those of short ones do, up to 2^50
func TestSteps(t *testing.T) {
	c := chance(8)
	for range 300 {
		times := make([]uint64, 1+c.Intn(3))
		for k := range times {
			times[k] = 3 + uint64(c.Int63n(1<<20-2))
		}
		k := c.Intn(len(times))
		three, four := slices.Clone(times), slices.Clone(times)
		three[k], four[k] = 3, 4
		once := stepsOf(t, four...) - stepsOf(t, three...)
		want := float64(stepsOf(t, three...)) + float64(times[k]-3)*float64(once)
		if got := stepsOf(t, times...); float64(once) < 1<<50 && (want < 1<<50 && float64(got) != want || want >= 1<<50 && got != 1<<50) {
			t.Fatalf("Steps of loops of %v times: %d, not %f", times, got, want)
		}
	}
	for deep := 3; deep <= 8; deep++ {
		if got := compiles(t, program(nest(1<<20, deep)...)).Steps; got != 1<<50 {
			t.Errorf("Steps of %d loops: %d", deep, got)
		}
	}
	if got := compiles(t, program(nest(1<<20, 2)...)).Steps; got < 1<<40 || got >= 1<<50 {
		t.Errorf("Steps of two loops: %d", got)
	}
	// What stands behind a loop of too many steps makes them no more.
	p := program(append(nest(1<<20, 4), store(-1, 0, publicOut, 0))...)
	p.Ops[len(p.Ops)-1] = constant(9, 9)
	if got := compiles(t, p).Steps; got != 1<<50 {
		t.Error(got)
	}
}

// P15.1: the most Steps below 2^50 are told as they are, one round more as 2^50
func TestStepsAtTheEdge(t *testing.T) {
	// The two loops' steps are a plus b times: of many more than 2^50 none are told.
	at := func(n uint64) int { return stepsOf(t, 1<<20, 1<<8, n) }
	b := at(4) - at(3)
	a := at(3) - 3*b
	n := (1<<50 - a) / b
	if n < 4 || n+1 > 1<<20 {
		t.Fatal(a, b, n)
	}
	if got := at(uint64(n)); got != a+b*n || got >= 1<<50 {
		t.Error(got, a+b*n)
	}
	if got := at(uint64(n) + 1); got != 1<<50 {
		t.Error(got)
	}
}
