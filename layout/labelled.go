package layout

import (
	"maps"
	"slices"

	"keysmith/api"
	"keysmith/inst"
)

// unlabelled answers instructions as lines, whose jumps still go by their own numbers.
func unlabelled(l []api.Inst) []api.Line {
	lines := make([]api.Line, len(l))
	for k, i := range l {
		lines[k].Inst = i
	}
	return lines
}

// goal answers where a jump goes.
func goal(behind int, jump api.Inst) int {
	return behind + int(jump.Imm)
}

// numbers answers the labels' numbers, by the places that jumps go to.
func (s sheet) numbers() map[int]int {
	numbers := map[int]int{}
	for behind, line := range s.each() {
		if inst.Jump(line.Inst) {
			numbers[goal(behind, line.Inst)] = 0
		}
	}
	for k, place := range slices.Sorted(maps.Keys(numbers)) {
		numbers[place] = k + 1
	}
	return numbers
}

// has answers whether at each of these places a line stands, or the end.
func (s sheet) has(numbers map[int]int) bool {
	left := maps.Clone(numbers)
	delete(left, 0)
	for behind := range s.each() {
		delete(left, behind)
	}
	return len(left) == 0
}

// labelled answers the lines with labels, and with jumps to them.
func (s sheet) labelled(numbers map[int]int) []api.Line {
	l := make([]api.Line, 0, len(s.lines)+len(numbers))
	l = withLabel(l, numbers[0])
	for behind, line := range s.each() {
		if inst.Jump(line.Inst) {
			line.To = numbers[goal(behind, line.Inst)]
			line.Inst.Imm = 0
		}
		l = withLabel(append(l, line), numbers[behind])
	}
	return l
}

// withLabel puts a label behind lines, if it has a number.
func withLabel(l []api.Line, number int) []api.Line {
	if number == 0 {
		return l
	}
	return append(l, api.Line{Label: number})
}
