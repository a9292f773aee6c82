package lower

// count is how many steps there are; more than maxCount are told as maxCount.
type count int

const maxCount count = 1 << 50

func (c count) plus(d count) count {
	return min(c+d, maxCount)
}

// times answers the count n times, n being above 0.
func (c count) times(n uint64) count {
	if c > maxCount/count(n) {
		return maxCount
	}
	return c * count(n)
}
