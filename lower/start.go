package lower

import (
	"keysmith/api"
	"keysmith/memory"
)

// homeAt is where Home stands, which a run's last return takes.
const homeAt = api.StackTop - limbBytes

// keptFrom is what the registers that must stay are at first, less their numbers.
const keptFrom = 1000

func frameBase(c api.Code) uint64 {
	return homeAt - uint64(c.Stack)
}

// stateAtFirst answers the state that a run begins from.
func stateAtFirst() api.State {
	s := api.State{PC: api.CodeBase}
	for _, r := range kept {
		s.Regs[r] = keptFrom + uint64(r)
	}
	s.Regs[api.RSP] = homeAt
	s.Regs[api.RDI] = api.BlockBase
	return s
}

// memoryAtFirst answers the memory that a run begins from.
func memoryAtFirst(bufs []api.Buf, c api.Code, rows [][]uint64) (*memory.Memory, api.Errno) {
	regions := []api.Region{{Base: frameBase(c), Bytes: make([]byte, c.Stack+limbBytes), Write: true}}
	if len(bufs) > 0 {
		regions = append(regions, api.Region{Base: api.BlockBase, Bytes: make([]byte, blockSize(bufs)), Write: true})
	}
	m, e := memory.New(regions)
	if e != api.OK {
		return nil, e
	}
	putRows(m, rows)
	m.Store(homeAt, api.Home)
	return m, api.OK
}
