package lower

import (
	"slices"

	"keysmith/alloc"
	"keysmith/api"
)

// RSP has the stack's end, RDI the block's beginning; RAX and RDX are at hand for what is on its way; all others are the pool: those that need not stay, then those that must stay what they are.
var (
	loose = [half]int{api.RCX, api.RSI, api.R8, api.R9, api.R10, api.R11}
	kept  = [half]int{api.RBX, api.RBP, api.R12, api.R13, api.R14, api.R15}
)

const (
	half = 6 // of the pool
	pool = 2 * half
)

// frame is where virtual registers are kept, and what stands in the frame: slots, and behind them what those registers were that must stay and that code has.
type frame struct {
	places []int
	slots  int
	saved  []int
}

func frameOf(places []int) frame {
	f := frame{places: places, slots: alloc.Slots(places)}
	for k, r := range kept {
		if slices.Contains(places, half+k) {
			f.saved = append(f.saved, r)
		}
	}
	return f
}

// register answers the register that a virtual one is kept in; none, if it waits in a slot.
func (f *frame) register(v int) int {
	place := f.places[v]
	switch {
	case place < 0:
		return api.None
	case place < half:
		return loose[place]
	}
	return kept[place-half]
}

// slot answers where a virtual register waits that no register keeps: slots go down from -1.
func (f *frame) slot(v int) api.Mem {
	return f.word(-1 - f.places[v])
}

// save answers where the k-th one of the saved registers stands.
func (f *frame) save(k int) api.Mem {
	return f.word(f.slots + k)
}

func (f *frame) word(k int) api.Mem {
	return beside(api.RSP, int64(k*limbBytes))
}

// words answers how many words there are in the frame.
func (f *frame) words() int {
	return f.slots + len(f.saved)
}

// size answers how many bytes there are in the frame.
func (f *frame) size() int {
	return f.words() * limbBytes
}

// beside answers the place in memory that lies so far behind what a register has.
func beside(r int, disp int64) api.Mem {
	return api.Mem{Base: r, Index: api.None, Scale: 1, Disp: disp}
}
