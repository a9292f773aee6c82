package lower

import (
	"keysmith/api"
	"keysmith/limb"
	"keysmith/memory"
)

const limbBytes = 8

// offsets answers where each buffer begins in the block.
func offsets(bufs []api.Buf) []int {
	l := make([]int, len(bufs))
	for k := 1; k < len(bufs); k++ {
		l[k] = l[k-1] + bufs[k-1].Size*limbBytes
	}
	return l
}

// blockSize answers how many bytes the block has.
func blockSize(bufs []api.Buf) int {
	size := 0
	for _, b := range bufs {
		size += b.Size * limbBytes
	}
	return size
}

// rowsAtFirst answers all rows as a run finds them. A run of the same buffers without operations tells which rows may be handed in, and leaves them so.
func rowsAtFirst(bufs []api.Buf, handed [][]uint64) ([][]uint64, api.Errno) {
	rows, _, e := limb.Run(api.LimbProg{Bufs: bufs}, handed)
	return rows, e
}

// rowsIn answers all rows as they stand in the block.
func rowsIn(m *memory.Memory, bufs []api.Buf) [][]uint64 {
	l := make([][]uint64, len(bufs))
	at := uint64(api.BlockBase)
	for k, b := range bufs {
		l[k] = make([]uint64, b.Size)
		for i := range l[k] {
			l[k][i], _ = m.Load(at)
			at += limbBytes
		}
	}
	return l
}

// putRows puts rows into the block.
func putRows(m *memory.Memory, rows [][]uint64) {
	at := uint64(api.BlockBase)
	for _, row := range rows {
		for _, v := range row {
			m.Store(at, v)
			at += limbBytes
		}
	}
}
