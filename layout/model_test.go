package layout

import (
	"encoding/binary"
	"math/rand"

	"keysmith/api"
	"keysmith/decode"
	"keysmith/encode"
	"keysmith/inst"
)

// modelCheck looks at all other lines anew for each line.
func modelCheck(l []api.Line) (int, api.Errno) {
	size := 0
	for k, line := range l {
		if e := modelFault(l, k); e != 0 {
			return k, e
		}
		if line.Label == 0 {
			size += encode.Size(line.Inst)
		}
	}
	if size > 1<<20 {
		return len(l), 10
	}
	return len(l), 0
}

func modelFault(l []api.Line, k int) api.Errno {
	x := l[k]
	jump := x.Inst.Op >= api.OpJmp && x.Inst.Op <= api.OpJc
	switch {
	case x.Label < 0, x.Label > 0 && x.Inst != api.Inst{}, x.Label > 0 && x.To != 0:
		return 2
	case x.Label > 0 && told(l[:k], x.Label):
		return 6
	case x.Label > 0:
		return 0
	case inst.Check(x.Inst) != 0, jump && x.Inst.Imm != 0, !jump && x.To != 0:
		return 2
	case jump && !told(l, x.To):
		return 5
	}
	return 0
}

func told(l []api.Line, label int) bool {
	for _, x := range l {
		if label > 0 && x.Label == label {
			return true
		}
	}
	return false
}

// modelPlace answers a place by all lines ahead.
func modelPlace(l []api.Line, k int) int {
	at := 0
	for _, x := range l[:k] {
		if x.Label == 0 {
			at += encode.Size(x.Inst)
		}
	}
	return at
}

// modelBytes answers the bytes of lines that may be; a jump's are put by hand.
func modelBytes(l []api.Line) string {
	code := ""
	for k, x := range l {
		if x.Label > 0 {
			continue
		}
		first := map[int]string{api.OpJmp: "\xe9", api.OpJnz: "\x0f\x85", api.OpJc: "\x0f\x82"}[x.Inst.Op]
		if first == "" {
			s, _ := encode.Inst(x.Inst)
			code += s
			continue
		}
		for other, y := range l {
			if y.Label == x.To {
				by := modelPlace(l, other) - modelPlace(l, k) - len(first) - 4
				code += string(binary.LittleEndian.AppendUint32([]byte(first), uint32(by)))
			}
		}
	}
	return code
}

// modelLines answers the lines of code; whether there are any.
func modelLines(code string) ([]api.Line, bool) {
	at := map[int]api.Inst{}
	end := 0
	for place, i := range decode.Each(code) {
		at[place] = i
		end = place + encode.Size(i)
	}
	if end < len(code) {
		return nil, false
	}
	numbers, ok := modelNumbers(at, end)
	if !ok {
		return nil, false
	}
	var l []api.Line
	for place := 0; place <= end; place++ {
		if numbers[place] > 0 {
			l = append(l, api.Line{Label: numbers[place]})
		}
		i, there := at[place]
		if !there {
			continue
		}
		if i.Op >= api.OpJmp && i.Op <= api.OpJc {
			to := place + encode.Size(i) + int(i.Imm)
			i.Imm = 0
			l = append(l, api.Line{Inst: i, To: numbers[to]})
			continue
		}
		l = append(l, api.Line{Inst: i})
	}
	return l, true
}

// modelNumbers goes through all places, and looks for each whether a jump goes there.
func modelNumbers(at map[int]api.Inst, end int) (numbers []int, ok bool) {
	numbers = make([]int, end+1)
	for place, i := range at {
		if i.Op < api.OpJmp || i.Op > api.OpJc {
			continue
		}
		to := place + encode.Size(i) + int(i.Imm)
		if _, there := at[to]; !there && to != end {
			return nil, false
		}
		numbers[to] = 1
	}
	n := 0
	for place := range numbers {
		if numbers[place] == 1 {
			n++
			numbers[place] = n
		}
	}
	return numbers, true
}

// some answers instructions of all sizes, that are no jumps.
func some() []api.Inst {
	at := api.Mem{Base: api.RSP, Index: api.R9, Scale: 8, Disp: 1000}
	return []api.Inst{
		{Op: api.OpRet},
		{Op: api.OpPush, S: api.R8},
		{Op: api.OpAdc, D: api.RAX, S: api.RCX},
		{Op: api.OpShl, D: api.RBX, Imm: 7},
		{Op: api.OpMulx, D: api.RAX, S: api.RCX, T: api.RSI},
		{Op: api.OpAdcx, D: api.R8, S: api.R9},
		{Op: api.OpCmpImm, D: api.RDX, Imm: -1},
		{Op: api.OpStore, S: api.RDI, M: at},
		{Op: api.OpMovImm, D: api.R15, Imm: 0x00e9c3850fe90f85},
	}
}

var jumps = []int{api.OpJmp, api.OpJnz, api.OpJc}

// chanced answers lines by chance that may be: labels of any numbers, jumps to them.
func chanced(c *rand.Rand) []api.Line {
	numbers := c.Perm(12)[:c.Intn(6)]
	var l []api.Line
	for _, n := range numbers {
		l = append(l, api.Line{Label: n*n*n + 1})
	}
	for range c.Intn(12) {
		line := api.Line{Inst: some()[c.Intn(len(some()))]}
		if len(numbers) > 0 && c.Intn(3) > 0 {
			n := numbers[c.Intn(len(numbers))]
			line = api.Line{Inst: api.Inst{Op: jumps[c.Intn(3)]}, To: n*n*n + 1}
		}
		l = append(l, line)
	}
	c.Shuffle(len(l), func(a, b int) { l[a], l[b] = l[b], l[a] })
	return l
}

// spoil changes something of a line.
func spoil(c *rand.Rand, l []api.Line) {
	if len(l) == 0 {
		return
	}
	x := &l[c.Intn(len(l))]
	small := c.Intn(30) - 2
	switch c.Intn(8) {
	case 0:
		x.Label = small
	case 1:
		x.To = small
	case 2:
		x.Inst.Imm = int64(small)
	case 3:
		x.Inst.Op = small + 10
	case 4:
		x.Inst.D = small
	case 5:
		*x = l[c.Intn(len(l))]
	case 6:
		*x = api.Line{}
	case 7:
		x.Inst = api.Inst{}
	}
}

// chancedCode answers code by chance, whose jumps go to where lines stand; or, if anywhere, some of them beside.
func chancedCode(c *rand.Rand, anywhere bool) string {
	l := make([]api.Inst, c.Intn(12))
	places := []int{0}
	for k := range l {
		l[k] = some()[c.Intn(len(some()))]
		if c.Intn(2) == 0 {
			l[k] = api.Inst{Op: jumps[c.Intn(3)]}
		}
		places = append(places, places[k]+encode.Size(l[k]))
	}
	for k := range l {
		if inst.Jump(l[k]) {
			l[k].Imm = int64(places[c.Intn(len(places))] - places[k+1])
			if anywhere && c.Intn(8) == 0 {
				l[k].Imm += int64(c.Intn(9) - 4)
			}
		}
	}
	code, e := encode.All(l)
	if e != api.OK {
		panic(e)
	}
	return code
}
