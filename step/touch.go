package step

import (
	"keysmith/api"
	"keysmith/memory"
)

const wordBytes = 8

// touch answers which word an instruction reads or writes, as it is seen; nothing of one that does neither.
func touch(s api.State, i api.Inst) api.Event {
	switch i.Op {
	case api.OpLoad:
		return api.Event{Kind: api.EventRead, Addr: Address(s, i.M)}
	case api.OpStore:
		return api.Event{Kind: api.EventWrite, Addr: Address(s, i.M)}
	case api.OpPush:
		return api.Event{Kind: api.EventWrite, Addr: s.Regs[api.RSP] - wordBytes}
	case api.OpPop, api.OpRet:
		return api.Event{Kind: api.EventRead, Addr: s.Regs[api.RSP]}
	}
	return api.Event{}
}

// exchange reads the word that is touched, or writes v there.
func exchange(m *memory.Memory, t api.Event, v uint64) (uint64, api.Errno) {
	switch t.Kind {
	case api.EventRead:
		return m.Load(t.Addr)
	case api.EventWrite:
		return 0, m.Store(t.Addr, v)
	}
	return 0, api.OK
}
