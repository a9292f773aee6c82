package limb

import (
	"keysmith/api"
	"keysmith/word"
)

// count is how many events there are; more than maxCount are told as maxCount.
type count uint64

const maxCount count = 1 << 50

// plus answers a sum; those of two counts do not go round.
func (c count) plus(d count) count {
	return min(c+d, maxCount)
}

func (c count) times(n uint64) count {
	high, low := word.Mul(uint64(c), n)
	if high > 0 {
		return maxCount
	}
	return min(count(low), maxCount)
}

// body is what stands in a loop: how often it is done, and how many events it has each time.
type body struct {
	times  uint64
	events count
}

// events answers how many events a run of operations has that may be.
func events(ops []api.LimbOp) count {
	// The program itself stands in no loop: it is done once.
	open := []body{{times: 1}}
	for _, o := range ops {
		last := len(open) - 1
		switch o.Kind {
		case api.LimbLoop:
			// The loop's own event is seen each time.
			open = append(open, body{times: o.Imm, events: 1})
		case api.LimbEnd:
			inner, outer := open[last], &open[last-1]
			outer.events = outer.events.plus(inner.events.times(inner.times))
			open = open[:last]
		default:
			open[last].events = open[last].events.plus(1)
		}
	}
	return open[0].events
}

// ends answers loops' ends and ends' loops, of operations that may be.
func ends(ops []api.LimbOp) []int {
	l := make([]int, len(ops))
	var open []int
	for at, o := range ops {
		l[at] = none
		switch o.Kind {
		case api.LimbLoop:
			open = append(open, at)
		case api.LimbEnd:
			last := len(open) - 1
			l[at], l[open[last]] = open[last], at
			open = open[:last]
		}
	}
	return l
}
