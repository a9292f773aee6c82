package alloc

import (
	"slices"
	"testing"

	"keysmith/api"
	"keysmith/limb"
)

// together answers a program that holds so many registers at once, each up to its end.
func together(regs int) api.LimbProg {
	p := api.LimbProg{Regs: regs, Bufs: program().Bufs}
	for r := range regs {
		p.Ops = append(p.Ops, constant(r))
	}
	for r := range regs {
		p.Ops = append(p.Ops, store(r))
	}
	return p
}

// P14.2: all registers at once: each in a place of its own, no more in slots than have to be, the slots from the first one on
func TestBuildTogether(t *testing.T) {
	for regs := range 65 {
		p := together(regs)
		for pool := range 17 {
			l := builds(t, p, pool)
			slices.Sort(l)
			if len(slices.Compact(l)) != regs || Slots(l) != max(regs-pool, 0) {
				t.Fatalf("%d registers, pool %d: %v", regs, pool, l)
			}
		}
	}
}

// P14.2: one behind the other: all may be in one place
func TestBuildApart(t *testing.T) {
	p := api.LimbProg{Regs: 64, Bufs: program().Bufs}
	for r := range 64 {
		p.Ops = append(p.Ops, constant(r), store(r))
	}
	for pool := range 17 {
		l := builds(t, p, pool)
		want := 0
		if pool == 0 {
			want = -1
		}
		if !slices.Equal(l, slices.Repeat([]int{want}, 64)) {
			t.Errorf("pool %d: %v", pool, l)
		}
	}
}

// P14.2: chains, in which each register meets the next one at one operation
func TestBuildChain(t *testing.T) {
	p := api.LimbProg{Regs: 64, Ops: row(constant(0))}
	for r := range 63 {
		p.Ops = append(p.Ops, move(r+1, r))
	}
	for pool := range 17 {
		l := builds(t, p, pool)
		if Slots(l) > max(0, 2-pool) {
			t.Errorf("pool %d: %v", pool, l)
		}
	}
}

// P14.2: what a run touches most is kept in the pool, whatever is made ahead of it or ends behind it
func TestBuildKeepsHot(t *testing.T) {
	// 0 and 1 are in the inner loop, 4 in the outer one alone, 5 in none.
	p := program(constant(5), constant(4), loop(2), add(4, 4, 4), constant(0), loop(3), move(1, 0), add(0, 0, 1), end, store(0), end, store(4), store(5))
	if l := builds(t, p, 3); l[0] < 0 || l[1] < 0 || l[3] < 0 {
		t.Errorf("%v", l)
	}
	if l := builds(t, p, 5); l[5] >= 0 || Slots(l) != 1 {
		t.Errorf("%v", l)
	}
	// What stands behind a loop is done once.
	p = program(constant(0), constant(1), times(2, 100), store(0), end, store(1), store(1), store(1))
	if l := builds(t, p, 2); l[0] < 0 || l[2] < 0 {
		t.Errorf("%v", l)
	}
	// However often that is: no number of times goes round.
	ahead, behind := row(constant(8)), row()
	for r := range 7 {
		ahead = append(ahead, times(r, 1<<20))
		behind = append(behind, end)
	}
	inner := row(constant(7), move(7, 7), move(7, 7))
	p = program(slices.Concat(ahead, inner, behind, row(store(8)))...)
	if l := builds(t, p, 8); l[7] < 0 || l[8] >= 0 {
		t.Errorf("%v", l)
	}
}

// P14.2: as many operations as may be, all of which touch one register, as often as may be
func TestBuildLongest(t *testing.T) {
	p := together(64)
	l := slices.Repeat(row(add(63, 63, 63)), api.MaxOps-len(p.Ops)-16)
	for r := range 8 {
		l = append(row(times(r, 1<<20)), append(l, end)...)
	}
	p.Ops = slices.Concat(l, p.Ops)
	p.Ops = append(row(constant(63)), p.Ops[:len(p.Ops)-1]...)
	if n, e := limb.Check(p); n != api.MaxOps || e != api.OK {
		t.Fatal(n, e)
	}
	if l := Live(p); l[63] != [2]int{0, api.MaxOps - 64} || l[7] != [2]int{1, api.MaxOps - 56} {
		t.Error(l[63], l[7])
	}
	for _, pool := range []int{0, 1, 8, 16} {
		places, e := Build(p, pool)
		if e != api.OK || Check(p, pool, places) != api.OK || Slots(places) > 64 {
			t.Error(pool, places, e)
		}
		if pool > 0 && places[63] < 0 {
			t.Error(pool, places)
		}
	}
}

// P14.2: as many loops as may be
func TestBuildManyLoops(t *testing.T) {
	p := program(slices.Repeat(row(loop(1), end), api.MaxOps/2)...)
	p.Ops[len(p.Ops)-2] = store(1)
	p.Ops[len(p.Ops)-1] = constant(0)
	p.Ops[len(p.Ops)-3] = constant(1)
	p.Ops[len(p.Ops)-4] = constant(1)
	spans(t, p, [2]int{api.MaxOps - 1, api.MaxOps - 1}, [2]int{0, api.MaxOps - 2})
	l, e := Build(p, 1)
	if e != api.OK || !slices.Equal(l, make([]int, 9)) {
		t.Error(l, e)
	}
}

// Answers are new memory, each time, and the same each time.
func TestBuildNewMemory(t *testing.T) {
	p := together(20)
	first, _ := Build(p, 5)
	was := slices.Clone(first)
	spans := Live(p)
	before := slices.Clone(spans)
	second, _ := Build(p, 5)
	if !slices.Equal(second, was) {
		t.Error(second, was)
	}
	clear(second[:cap(second)])
	clear(Live(p))
	if !slices.Equal(first, was) || !slices.Equal(spans, before) {
		t.Error(first, was, spans)
	}
	clear(first[:cap(first)])
	if third, _ := Build(p, 5); !slices.Equal(third, was) {
		t.Error(third, was)
	}
}

// P14.1, P14.2: programs by chance, held against the model
func TestChanced(t *testing.T) {
	c := chance(14)
	there, loops, slots := 0, 0, 0
	for k := range 2000 {
		p := chanced(c, 1+c.Intn(12), c.Intn(60))
		if k%100 == 0 {
			p = chanced(c, 64, 300)
		}
		spans(t, p, modelLive(p)...)
		if l := modelLoops(p.Ops); len(l) > 2 {
			loops++
		}
		most := crowd(p)
		for _, pool := range []int{0, 1, c.Intn(17), 16} {
			l := builds(t, p, pool)
			if !does(p, l) {
				t.Fatalf("%+v can't be done in %v", p, l)
			}
			if n := Slots(l); n > most || most <= pool && n > 0 {
				t.Fatalf("%d slots of %+v, pool %d, at most %d at once: %v", n, p.Ops, pool, most, l)
			} else if n > 0 {
				slots++
			}
			places := chancedPlaces(c, p.Regs, pool)
			checks(t, p, pool, places, modelCheck(p, pool, places))
			if spoiled(c, l, pool); modelCheck(p, pool, l) == api.ErrThere {
				there++
			}
			checks(t, p, pool, l, modelCheck(p, pool, l))
			if modelCheck(p, pool, l) == api.OK && !does(p, l) {
				t.Fatalf("%+v can't be done in %v", p, l)
			}
		}
	}
	if there < 1000 || loops < 500 || slots < 1000 {
		t.Error(there, loops, slots)
	}
}
