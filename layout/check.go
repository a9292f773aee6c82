package layout

import (
	"keysmith/api"
	"keysmith/inst"
)

// check answers the first fault and its line's number; if there is none, how many lines there are.
func (s sheet) check(labels map[int]int) (at int, e api.Errno) {
	ahead := map[int]struct{}{}
	for k, line := range s.lines {
		if e := fault(line, labels, ahead); e != api.OK {
			return k, e
		}
		ahead[line.Label] = struct{}{}
	}
	if s.end() > api.MaxBytes {
		return len(s.lines), api.ErrFull
	}
	return len(s.lines), api.OK
}

// fault answers why a line may not be; labels are all that there are, ahead those ahead of it.
func fault(line api.Line, labels map[int]int, ahead map[int]struct{}) api.Errno {
	switch {
	case line.Label != 0:
		return faultOfLabel(line, ahead)
	case inst.Check(line.Inst) != api.OK:
		return api.ErrArg
	case inst.Jump(line.Inst):
		return faultOfJump(line, labels)
	case line.To != 0:
		return api.ErrArg
	}
	return api.OK
}

func faultOfLabel(line api.Line, ahead map[int]struct{}) api.Errno {
	if line.Label < 0 || line != (api.Line{Label: line.Label}) {
		return api.ErrArg
	}
	if _, there := ahead[line.Label]; there {
		return api.ErrThere
	}
	return api.OK
}

func faultOfJump(line api.Line, labels map[int]int) api.Errno {
	if line.Inst.Imm != 0 {
		return api.ErrArg
	}
	if _, there := labels[line.To]; !there {
		return api.ErrNone
	}
	return api.OK
}
