package parse

import (
	"maps"
	"slices"

	"keysmith/api"
	"keysmith/scan"
)

func (r *reader) inBrackets() api.Len {
	r.must("[")
	l := r.sum()
	r.must("]")
	return l
}

// sum reads a length: of each name its terms are put together, for a length is the same however it was written.
func (r *reader) sum() api.Len {
	var l api.Len
	times := map[string]int{}
	for more := true; more; more = r.take("+") {
		l.Const += r.item(times)
	}
	for _, name := range slices.Sorted(maps.Keys(times)) {
		if times[name] > 0 {
			l.Terms = append(l.Terms, api.Term{Name: name, Times: times[name]})
		}
	}
	return l
}

// item reads one part of a length: a term goes among the times, else it answers the number.
func (r *reader) item(times map[string]int) int {
	n, ok := scan.Number(r.text())
	if !ok {
		times[r.name()]++
		return 0
	}
	if n > api.MaxTimes {
		r.refuse(api.ErrLong)
	}
	r.next++
	if !r.take("*") {
		return int(n)
	}
	times[r.name()] += int(n)
	return 0
}
