package secrecy

import (
	"slices"

	"keysmith/api"
	"keysmith/limb"
)

// fit answers whether a run takes these rows. A run of the same buffers without operations tells it, however long the program's own runs are.
func fit(p api.LimbProg, rows [][]uint64) bool {
	_, _, e := limb.Run(api.LimbProg{Bufs: p.Bufs}, rows)
	return e == api.OK
}

// agree answers whether rows that fit are alike in all buffers that are not secret.
func agree(bufs []api.Buf, a, b [][]uint64) bool {
	for k, buf := range bufs {
		if !buf.Secret && !slices.Equal(a[k], b[k]) {
			return false
		}
	}
	return true
}
