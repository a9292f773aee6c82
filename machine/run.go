package machine

import (
	"iter"

	"keysmith/api"
	"keysmith/memory"
	"keysmith/step"
)

// run is a run under way: the state that it has come to, and why it ended, if it did not come home.
type run struct {
	api.State
	code    string
	memory  *memory.Memory
	fuel    int
	steps   int
	why     api.Errno
	fetched map[uint64]placed
}

// placed is an instruction that stands in code.
type placed struct {
	inst api.Inst
	size int
}

func begin(code string, s api.State, m *memory.Memory, fuel int) *run {
	return &run{State: s, code: code, memory: m, fuel: fuel, why: refuse(code, m, fuel), fetched: map[uint64]placed{}}
}

func refuse(code string, m *memory.Memory, fuel int) api.Errno {
	if fuel < 0 || fuel > api.MaxFuel || len(code) > api.MaxBytes {
		return api.ErrArg
	}
	// A memory that nobody made is none; it answers ErrNil, whatever it is asked.
	if _, e := m.Bytes(0, -1); e == api.ErrNil {
		return api.ErrArg
	}
	return api.OK
}

// events drives the run, and tells what is seen of it, one by one.
func (r *run) events() iter.Seq[api.Event] {
	return func(yield func(api.Event) bool) {
		for l := range r.stepwise() {
			for _, seen := range l {
				if !yield(seen) {
					return
				}
			}
		}
	}
}

// stepwise tells what is seen of each step, once it is done.
func (r *run) stepwise() iter.Seq[[]api.Event] {
	return func(yield func([]api.Event) bool) {
		for r.goesOn() {
			if !yield(r.step()) {
				return
			}
		}
	}
}

func (r *run) goesOn() bool {
	if r.why != api.OK || r.PC == api.Home {
		return false
	}
	if r.steps == r.fuel {
		r.why = api.ErrFull
		return false
	}
	return true
}

// step does the next instruction; if it can't be done, the run ends ahead of it.
func (r *run) step() []api.Event {
	p, e := r.fetch()
	if e != api.OK {
		r.why = e
		return nil
	}
	next, l, e := step.Do(r.State, p.inst, p.size, r.memory)
	if e != api.OK {
		r.why = e
		return nil
	}
	r.State = next
	r.steps++
	return l
}

// fetch answers the instruction at the PC. To decode one costs ten times as much as to do it, and loops come back, so each is decoded once a run.
func (r *run) fetch() (placed, api.Errno) {
	if p, ok := r.fetched[r.PC]; ok {
		return p, api.OK
	}
	i, size, e := Fetch(r.code, r.PC)
	if e != api.OK {
		return placed{}, e
	}
	p := placed{inst: i, size: size}
	r.fetched[r.PC] = p
	return p, api.OK
}
