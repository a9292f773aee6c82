package listing

import (
	"iter"
	"strconv"
	"strings"

	"keysmith/api"
	"keysmith/inst"
)

// read answers the instruction that has this text, if there is one. As several operations may have one name, each of that name is tried; what was read counts only if its own text is just this one, so that nothing below need look whether a text is told in the right way.
func read(s string) (api.Inst, bool) {
	name, operands, _ := strings.Cut(s, " ")
	for op := api.OpMov; op <= api.OpRet; op++ {
		if inst.Name(op) != name {
			continue
		}
		i, ok := readAs(op, operands)
		if ok && inst.Check(i) == api.OK && text(i) == s {
			return i, true
		}
	}
	return api.Inst{}, false
}

// readAs answers the instruction of this operation with these operands, if they are of the kinds that it has.
func readAs(op int, operands string) (api.Inst, bool) {
	i := api.Inst{Op: op}
	for _, p := range partsOf(op) {
		var s string
		s, operands, _ = strings.Cut(operands, ", ")
		o, ok := readOperand(s)
		if !ok || !p.put(&i, o) {
			return api.Inst{}, false
		}
	}
	return i, true
}

func readOperand(s string) (operand, bool) {
	if inner, ok := strings.CutPrefix(s, "["); ok {
		return readPlace(inner)
	}
	if r, ok := readRegister(s); ok {
		return r, true
	}
	return readNumber(s)
}

func readRegister(s string) (register, bool) {
	for r := api.RAX; r <= api.R15; r++ {
		if inst.Register(r) == s {
			return register(r), true
		}
	}
	return 0, false
}

func readNumber(s string) (number, bool) {
	n, err := strconv.ParseInt(s, 10, 64)
	return number(n), err == nil
}

// readPlace reads a place from what is behind its [.
func readPlace(s string) (place, bool) {
	p := place{Base: api.None, Index: api.None, Scale: 1}
	inner, _, _ := strings.Cut(s, "]")
	for piece := range pieces(inner) {
		if !p.add(piece) {
			return place{}, false
		}
	}
	return p, true
}

// pieces tells what a place is the sum of, one by one, each but the first with its sign.
func pieces(s string) iter.Seq[string] {
	return func(yield func(string) bool) {
		from := 0
		for at, r := range s {
			if r != '+' && r != '-' {
				continue
			}
			if !yield(s[from:at]) {
				return
			}
			from = at
		}
		yield(s[from:])
	}
}

// add lays a piece into the place: Scale and Index, Base, or Disp.
func (p *place) add(piece string) bool {
	if scale, index, ok := strings.Cut(piece, "*"); ok {
		return p.addIndex(scale, index)
	}
	if r, ok := readRegister(piece); ok {
		p.Base = int(r)
		return true
	}
	n, ok := readNumber(piece)
	p.Disp = int64(n)
	return ok
}

func (p *place) addIndex(scale, index string) bool {
	n, scaled := readNumber(scale)
	r, indexed := readRegister(index)
	p.Scale, p.Index = int(n), int(r)
	return scaled && indexed
}
