package machine

import (
	"math/rand"

	"keysmith/api"
	"keysmith/decode"
	"keysmith/encode"
	"keysmith/inst"
	"keysmith/memory"
	"keysmith/step"
)

const (
	top  = 1<<64 - 1
	low  = api.StackTop - room // the region of most tests
	room = 128                 // how many bytes it has
)

// plain is a second way to run: each instruction is decoded anew, and all that comes of a step is kept.
type plain struct {
	states []api.State   // ahead of each step, and the last one
	seen   [][]api.Event // of each step
	why    api.Errno
}

func plainly(code string, s api.State, m *memory.Memory, fuel int) plain {
	p := plain{states: []api.State{s}}
	for s.PC != 1 {
		at := int64(s.PC) - 1<<22
		if len(p.seen) == fuel {
			p.why = 10
			return p
		}
		if at < 0 || at >= int64(len(code)) {
			p.why = 11
			return p
		}
		i, size, e := decode.Inst(code, int(at))
		if e != api.OK {
			p.why = 11
			return p
		}
		var l []api.Event
		if s, l, e = step.Do(s, i, size, m); e != api.OK {
			p.why = 11
			return p
		}
		p.states, p.seen = append(p.states, s), append(p.seen, l)
	}
	return p
}

func (p plain) ran() api.Ran {
	return api.Ran{State: p.states[len(p.seen)], Steps: len(p.seen), Err: p.why}
}

func (p plain) events() []api.Event { return joined(p.seen) }

func joined(l [][]api.Event) (all []api.Event) {
	for _, m := range l {
		all = append(all, m...)
	}
	return all
}

// start answers a state whose return goes home, and its memory: one region that may be written, one that may not.
func start() (api.State, *memory.Memory) {
	s := api.State{PC: api.CodeBase}
	s.Regs[api.RSP], s.Regs[api.RSI], s.Regs[api.RDI] = api.StackTop-8, low-64, low
	m, e := memory.New([]api.Region{{Base: low, Bytes: make([]byte, room), Write: true}, {Base: low - 64, Bytes: []byte("read only, but not all of it is noughts, and it is 64 bytes long")}})
	if e != api.OK {
		panic(e)
	}
	m.Store(api.StackTop-8, api.Home)
	return s, m
}

// coded answers the bytes of instructions.
func coded(l ...api.Inst) string {
	code, e := encode.All(l)
	if e != api.OK {
		panic(e)
	}
	return code
}

func at(base, disp int) api.Mem {
	return api.Mem{Base: base, Index: api.None, Scale: 1, Disp: int64(disp)}
}

// chanced answers instructions by chance, whose jumps go to one of them, to the end, or (seldom) into one, or out.
func chanced(c *rand.Rand) string {
	l := make([]api.Inst, 1+c.Intn(12))
	places, end := make([]int, len(l)+1), 0
	for k := range l {
		for inst.Check(l[k]) != api.OK {
			l[k] = anyInst(c)
		}
		end += encode.Size(l[k])
		places[k+1] = end
	}
	for k, i := range l {
		if inst.Jump(i) {
			l[k].Imm = int64(places[c.Intn(len(places))] - places[k+1])
			if c.Intn(20) == 0 {
				l[k].Imm += int64(c.Intn(41) - 20)
			}
		}
	}
	return coded(l...)
}

func anyInst(c *rand.Rand) api.Inst {
	i := api.Inst{Op: 1 + c.Intn(api.OpRet), D: c.Intn(16), S: c.Intn(16), T: c.Intn(16), Imm: int64(1 + c.Intn(63))}
	switch i.Op {
	case api.OpLoad, api.OpStore, api.OpLea:
		i.M = at([]int{api.RSI, api.RDI, api.RSP}[c.Intn(3)], 8*c.Intn(8))
		i.T, i.Imm = 0, 0
	}
	if c.Intn(2) == 0 {
		i.D = 0
	}
	if c.Intn(2) == 0 {
		i.S = 0
	}
	if c.Intn(2) == 0 {
		i.T = 0
	}
	if c.Intn(2) == 0 {
		i.Imm = 0
	}
	return i
}
