package encode

import (
	"math/bits"

	"keysmith/api"
)

// code is bytes, behind which others are put.
type code []byte

func (c code) put(l ...byte) code {
	return append(c, l...)
}

// number puts the lower bytes of a number, so many, the least one first.
func (c code) number(n int64, size int) code {
	for range size {
		c = c.put(byte(n))
		n >>= 8
	}
	return c
}

// register puts RM(m, r); m is a register, or a digit of the operation.
func (c code) register(m, r int) code {
	return c.put(0xc0 | low(m)<<3 | low(r))
}

// place puts RM(m, p).
func (c code) place(m int, p api.Mem) code {
	size := sizeOfDisp(p)
	first := modeOfDisp(size)<<6 | low(m)<<3
	if needsScale(p) {
		c = c.put(first|scaleFollows, scaled(p))
	} else {
		c = c.put(first | low(p.Base))
	}
	return c.number(p.Disp, size)
}

// scaleFollows stands where else Base's lower bits do, if a byte with the scale follows. So a Base with the very same lower bits, RSP or R12, needs that byte, too. There, in Index' stead, it says that there is none.
const scaleFollows = 4

func needsScale(p api.Mem) bool {
	return p.Index != api.None || low(p.Base) == scaleFollows
}

// scaled answers the byte that tells of a place's registers and of its scale.
func scaled(p api.Mem) byte {
	index := byte(scaleFollows)
	if p.Index != api.None {
		index = low(p.Index)
	}
	return byte(bits.TrailingZeros(uint(p.Scale)))<<6 | index<<3 | low(p.Base)
}

// sizeOfDisp answers in how many bytes a place's Disp stands. RBP and R13 can't be told without one.
func sizeOfDisp(p api.Mem) int {
	switch {
	case p.Disp == 0 && low(p.Base) != low(api.RBP):
		return 0
	case p.Disp == int64(int8(p.Disp)):
		return 1
	}
	return 4
}

func modeOfDisp(size int) byte {
	if size == 4 {
		return 2
	}
	return byte(size)
}

// low answers a register's lower three bits; rex tells of the fourth.
func low(r int) byte {
	return byte(r & 7)
}

// rex answers the byte that tells which registers are from R8 on; where there is no index, it is None.
func rex(middle, index, last int) byte {
	return 0x48 | fromR8(middle)<<2 | fromR8(index)<<1 | fromR8(last)
}

func fromR8(r int) byte {
	if r >= api.R8 {
		return 1
	}
	return 0
}
