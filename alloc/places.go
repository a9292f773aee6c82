package alloc

import (
	"slices"

	"keysmith/api"
)

// maxPool is how many registers a pool has at most.
const maxPool = 16

// The first slot and the last one: slots go down.
const (
	firstSlot = -1
	lastSlot  = -api.MaxRegs
)

func mayBePool(pool int) bool {
	return pool >= 0 && pool <= maxPool
}

func isSlot(place int) bool {
	return place <= firstSlot && place >= lastSlot
}

func isPlace(place, pool int) bool {
	return isSlot(place) || place >= 0 && place < pool
}

// outside answers whether a register is kept where there is no place.
func outside(held []life, pool int, places []int) bool {
	return slices.ContainsFunc(held, func(l life) bool { return !isPlace(places[l.reg], pool) })
}

// meet answers whether two registers are kept in one place at one operation.
func meet(held []life, places []int) bool {
	for k, l := range held {
		for _, m := range held[:k] {
			if places[l.reg] == places[m.reg] && l.meets(m) {
				return true
			}
		}
	}
	return false
}
