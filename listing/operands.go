package listing

import (
	"strconv"

	"keysmith/api"
	"keysmith/inst"
)

// operand is a register, a number, a distance or a place.
type operand interface {
	text() string
}

type register int

type number int64

// distance is a number whose sign is always told, as a jump's is. Read it is a number.
type distance int64

type place api.Mem

func (r register) text() string {
	return inst.Register(int(r))
}

func (n number) text() string {
	return strconv.FormatInt(int64(n), 10)
}

func (d distance) text() string {
	if d < 0 {
		return number(d).text()
	}
	return "+" + number(d).text()
}

func (p place) text() string {
	s := "[" + register(p.Base).text()
	if p.Index != api.None {
		s += "+" + number(p.Scale).text() + "*" + register(p.Index).text()
	}
	if p.Disp != 0 {
		s += distance(p.Disp).text()
	}
	return s + "]"
}

// text answers the text of an instruction that may be.
func text(i api.Inst) string {
	s := inst.Name(i.Op)
	between := " "
	for _, p := range partsOf(i.Op) {
		s += between + p.of(i).text()
		between = ", "
	}
	return s
}
