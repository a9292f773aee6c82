package alloc

import (
	"cmp"
	"math"
	"math/bits"
	"slices"
)

// free is places that nobody is kept in, each a bit.
type free uint64

// count answers how many free places there are.
func (f free) count() int {
	return bits.OnesCount64(uint64(f))
}

// take answers the first free place, which is free no more.
func (f *free) take() int {
	place := bits.TrailingZeros64(uint64(*f))
	*f &^= 1 << place
	return place
}

func (f *free) give(place int) {
	*f |= 1 << place
}

// scan gives out places, span by span.
type scan struct {
	free   free
	held   []life // the one that is worth least first
	places []int  // by registers
	left   []life // those that had to leave
}

// placed answers a place for each register. Those that have to leave the pool are gone through once more, for slots: a slot is needed from a span's beginning on, and there are as many as registers.
func placed(l []life, pool int) []int {
	regs := len(l)
	inPool := scan{free: 1<<pool - 1, places: make([]int, regs)}
	inPool.through(alive(l))
	inSlots := scan{free: math.MaxUint64, places: make([]int, regs)}
	inSlots.through(inPool.left)
	for _, one := range inPool.left {
		inPool.places[one.reg] = firstSlot - inSlots.places[one.reg]
	}
	return inPool.places
}

// through goes through spans by their beginnings.
func (s *scan) through(l []life) {
	for _, one := range slices.SortedFunc(slices.Values(l), byBeginning) {
		s.drop(one.first)
		s.hold(one)
	}
}

func byBeginning(a, b life) int {
	return cmp.Or(cmp.Compare(a.first, b.first), cmp.Compare(a.reg, b.reg))
}

// drop frees the places of those whose spans end ahead of an operation.
func (s *scan) drop(at int) {
	s.held = slices.DeleteFunc(s.held, func(one life) bool {
		over := one.last < at
		if over {
			s.free.give(s.places[one.reg])
		}
		return over
	})
}

// hold keeps a register in a free place; if there is none, in that of the one that is worth least, unless it is that one itself.
func (s *scan) hold(one life) {
	s.held = append(s.held, one)
	slices.SortFunc(s.held, byWorth)
	if s.free.count() > 0 {
		s.places[one.reg] = s.free.take()
		return
	}
	out := s.held[0]
	s.held = slices.Delete(s.held, 0, 1)
	s.left = append(s.left, out)
	s.places[one.reg] = s.places[out.reg]
}

// byWorth puts ahead what a run touches less often for each operation of its span: in a slot it costs least for the room that it makes. Of those that are worth as much, the one goes ahead that would be held longest, then the one that needs a slot latest.
func byWorth(a, b life) int {
	return cmp.Or(
		cmp.Compare(a.touched*b.length(), b.touched*a.length()),
		cmp.Compare(b.last, a.last),
		cmp.Compare(b.first, a.first),
		cmp.Compare(a.reg, b.reg),
	)
}
