package layout

import (
	"iter"

	"keysmith/api"
	"keysmith/encode"
	"keysmith/inst"
)

// sheet is lines, and how many bytes their instructions have, as far as it was asked. To ask encode costs far more than to look here, and most instructions come again.
type sheet struct {
	lines []api.Line
	sizes map[api.Inst]int
}

func sheetOf(l []api.Line) sheet {
	return sheet{lines: l, sizes: map[api.Inst]int{}}
}

func (s sheet) size(line api.Line) int {
	if line.Label != 0 {
		return 0
	}
	size, ok := s.sizes[line.Inst]
	if !ok {
		size = encode.Size(line.Inst)
		s.sizes[line.Inst] = size
	}
	return size
}

// each tells the place behind each line, where its jump counts from and the next one stands; and the line.
func (s sheet) each() iter.Seq2[int, api.Line] {
	return func(yield func(int, api.Line) bool) {
		behind := 0
		for _, line := range s.lines {
			behind += s.size(line)
			if !yield(behind, line) {
				return
			}
		}
	}
}

// end answers how many bytes the lines have.
func (s sheet) end() int {
	end := 0
	for behind := range s.each() {
		end = behind
	}
	return end
}

// labels answers the labels' places, by their numbers. As a label has no bytes, the place behind it is its own.
func (s sheet) labels() map[int]int {
	labels := map[int]int{}
	for behind, line := range s.each() {
		if line.Label > 0 {
			labels[line.Label] = behind
		}
	}
	return labels
}

func (s sheet) places() []int {
	l := make([]int, 0, len(s.lines))
	at := 0
	for behind := range s.each() {
		l = append(l, at)
		at = behind
	}
	return l
}

// instructions answers the lines' instructions, with jumps by as much as their labels' places ask.
func (s sheet) instructions(labels map[int]int) []api.Inst {
	l := make([]api.Inst, 0, len(s.lines))
	for behind, line := range s.each() {
		if line.Label != 0 {
			continue
		}
		if inst.Jump(line.Inst) {
			line.Inst.Imm = int64(labels[line.To] - behind)
		}
		l = append(l, line.Inst)
	}
	return l
}
