package memory

import (
	"cmp"
	"slices"

	"keysmith/api"
)

func tooLong(r api.Region) bool {
	return len(r.Bytes) > api.MaxBytes
}

// wrong answers whether a region has no bytes or goes round at 2^64.
func wrong(r api.Region) bool {
	return len(r.Bytes) == 0 || last(r) < r.Base
}

// last answers the address of a region's last byte.
func last(r api.Region) uint64 {
	return r.Base + uint64(len(r.Bytes)) - 1
}

// overlap answers whether two regions, of those by their addresses, have an address both: if any two have, two neighbours have.
func overlap(l []api.Region) bool {
	for i := 1; i < len(l); i++ {
		if l[i].Base <= last(l[i-1]) {
			return true
		}
	}
	return false
}

// byAddress answers a list of its own; the bytes are those handed in.
func byAddress(l []api.Region) []api.Region {
	return slices.SortedFunc(slices.Values(l), func(a, b api.Region) int { return cmp.Compare(a.Base, b.Base) })
}

// copies answers the regions by their addresses, with bytes of their own.
func copies(l []api.Region) []api.Region {
	l = byAddress(l)
	for i := range l {
		l[i].Bytes = slices.Clone(l[i].Bytes)
	}
	return l
}
