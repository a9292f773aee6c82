package encode

import (
	"encoding/binary"
	"slices"
	"strings"

	"keysmith/api"
)

// row is an operation's bytes by hand, bit by bit. A capital letter is a register's fourth bit (of D, S, T, the place's X and B), three small ones are the lower three; with ~ ahead a bit stands the other way round. Behind the bits comes a place (with D's or S's bits in the middle, as its letter says), or a number of so many bytes.
type row struct {
	op     int
	has    string
	bits   string
	place  byte
	number int
}

func rows() []row {
	return []row{
		{op: api.OpMov, has: "DS", bits: "01001S0D 10001001 11sssddd"},
		{op: api.OpMovImm, has: "DN", bits: "0100100D 10111ddd", number: 8},
		{op: api.OpLoad, has: "DM", bits: "01001DXB 10001011", place: 'D'},
		{op: api.OpStore, has: "SM", bits: "01001SXB 10001001", place: 'S'},
		{op: api.OpLea, has: "DM", bits: "01001DXB 10001101", place: 'D'},
		{op: api.OpAdd, has: "DS", bits: "01001S0D 00000001 11sssddd"},
		{op: api.OpAdc, has: "DS", bits: "01001S0D 00010001 11sssddd"},
		{op: api.OpSub, has: "DS", bits: "01001S0D 00101001 11sssddd"},
		{op: api.OpSbb, has: "DS", bits: "01001S0D 00011001 11sssddd"},
		{op: api.OpAnd, has: "DS", bits: "01001S0D 00100001 11sssddd"},
		{op: api.OpOr, has: "DS", bits: "01001S0D 00001001 11sssddd"},
		{op: api.OpXor, has: "DS", bits: "01001S0D 00110001 11sssddd"},
		{op: api.OpCmp, has: "DS", bits: "01001S0D 00111001 11sssddd"},
		{op: api.OpTest, has: "DS", bits: "01001S0D 10000101 11sssddd"},
		{op: api.OpAddImm, has: "DW", bits: "0100100D 10000001 11000ddd", number: 4},
		{op: api.OpAndImm, has: "DW", bits: "0100100D 10000001 11100ddd", number: 4},
		{op: api.OpSubImm, has: "DW", bits: "0100100D 10000001 11101ddd", number: 4},
		{op: api.OpCmpImm, has: "DW", bits: "0100100D 10000001 11111ddd", number: 4},
		{op: api.OpMulx, has: "DST", bits: "11000100 ~D1~T00010 1~S~s~s~s011 11110110 11dddttt"},
		{op: api.OpAdcx, has: "DS", bits: "01100110 01001D0S 00001111 00111000 11110110 11dddsss"},
		{op: api.OpAdox, has: "DS", bits: "11110011 01001D0S 00001111 00111000 11110110 11dddsss"},
		{op: api.OpNeg, has: "D", bits: "0100100D 11110111 11011ddd"},
		{op: api.OpNot, has: "D", bits: "0100100D 11110111 11010ddd"},
		{op: api.OpShl, has: "DC", bits: "0100100D 11000001 11100ddd", number: 1},
		{op: api.OpShr, has: "DC", bits: "0100100D 11000001 11101ddd", number: 1},
		{op: api.OpCmovc, has: "DS", bits: "01001D0S 00001111 01000010 11dddsss"},
		{op: api.OpCmovnz, has: "DS", bits: "01001D0S 00001111 01000101 11dddsss"},
		{op: api.OpPush, has: "S", bits: "01010sss"},
		{op: api.OpPop, has: "D", bits: "01011ddd"},
		{op: api.OpJmp, has: "W", bits: "11101001", number: 4},
		{op: api.OpJnz, has: "W", bits: "00001111 10000101", number: 4},
		{op: api.OpJc, has: "W", bits: "00001111 10000010", number: 4},
		{op: api.OpRet, bits: "11000011"},
	}
}

func (r row) hasPart(c string) bool {
	return strings.Contains(r.has, c)
}

// bytes answers what the instruction's bytes should be.
func (r row) bytes(i api.Inst) string {
	bits := r.bits
	if short := i.D + i.S; (r.op == api.OpPush || r.op == api.OpPop) && short >= 8 {
		bits = "01000001 " + bits
	}
	var tail []byte
	if r.place != 0 {
		middle := strings.Repeat(strings.ToLower(string(r.place)), 3)
		bits, tail = bits+" "+strings.ReplaceAll(placeBits(i.M), "mmm", middle), dispBytes(i.M)
	}
	number := binary.LittleEndian.AppendUint64(nil, uint64(i.Imm))[:r.number]
	return filled(bits, i) + string(tail) + string(number)
}

// placeBits answers a place's bits; mmm are those in the middle.
func placeBits(m api.Mem) string {
	mode := []string{"00", "01", "", "", "10"}[len(dispBytes(m))]
	scale := map[int]string{1: "00", 2: "01", 4: "10", 8: "11"}[m.Scale]
	switch {
	case m.Index != api.None:
		return mode + "mmm100 " + scale + "xxxbbb"
	case m.Base == api.RSP || m.Base == api.R12:
		return mode + "mmm100 00100bbb"
	}
	return mode + "mmmbbb"
}

func dispBytes(m api.Mem) []byte {
	b := binary.LittleEndian.AppendUint32(nil, uint32(m.Disp))
	switch {
	case m.Disp == 0 && m.Base != api.RBP && m.Base != api.R13:
		return nil
	case -128 <= m.Disp && m.Disp <= 127:
		return b[:1]
	}
	return b
}

// filled answers the bytes of bits in which letters stand for the instruction's registers.
func filled(bits string, i api.Inst) string {
	registers := map[rune]int{'d': i.D, 's': i.S, 't': i.T, 'x': i.M.Index, 'b': i.M.Base}
	var out []byte
	for part := range strings.FieldsSeq(bits) {
		b, flip, left := 0, 0, map[rune]int{'d': 3, 's': 3, 't': 3, 'x': 3, 'b': 3}
		for _, c := range part {
			bit := 0
			switch {
			case c == '~':
				flip = 1
				continue
			case c == '1':
				bit = 1
			case c == 'X' && i.M.Index == api.None:
			case 'A' <= c && c <= 'Z':
				bit = registers[c-'A'+'a'] >> 3 & 1
			case c != '0':
				left[c]--
				bit = registers[c] >> left[c] & 1
			}
			b, flip = b<<1|bit^flip, 0
		}
		out = append(out, byte(b))
	}
	return string(out)
}

var numbersOf32 = []int64{0, 1, -1, 5, -6, 127, 128, -128, -129, 255, 256, 32767, -32768, 1 << 16, 0x12345678, -0x12345678, 1<<31 - 1, -1 << 31}

// numbers answers numbers that the operation may have.
func (r row) numbers() []int64 {
	switch {
	case r.hasPart("N"):
		return append(slices.Clone(numbersOf32), 1<<31, -1<<31-1, 1<<32-1, 1<<32, 1<<62+3, -0x123456789abcdef, 1<<63-1, -1<<63)
	case r.hasPart("W"):
		return numbersOf32
	case r.hasPart("C"):
		return []int64{1, 2, 31, 32, 33, 62, 63}
	}
	return []int64{0}
}

// registersOf answers the registers that a part may be; just 0, if the operation does not have it.
func (r row) registersOf(part string) []int {
	l := []int{0}
	for n := 1; n < 16 && r.hasPart(part); n++ {
		l = append(l, n)
	}
	return l
}

// places answers places that the operation may have, with all pairs of registers.
func (r row) places() []api.Mem {
	if !r.hasPart("M") {
		return []api.Mem{{}}
	}
	var l []api.Mem
	for base := range 16 {
		for _, disp := range []int64{0, 1, -1, 8, 127, 128, -128, -129, 256, 0x12345678, 1<<31 - 1, -1 << 31} {
			l = append(l, api.Mem{Base: base, Index: api.None, Scale: 1, Disp: disp})
			for index := range 16 {
				for _, scale := range []int{1, 2, 4, 8} {
					if index != api.RSP {
						l = append(l, api.Mem{Base: base, Index: index, Scale: scale, Disp: disp})
					}
				}
			}
		}
	}
	return l
}

// all answers instructions of the operation that may be: all registers, with numbers and places at the edges.
func (r row) all() []api.Inst {
	var l []api.Inst
	for _, d := range r.registersOf("D") {
		for _, s := range r.registersOf("S") {
			for _, t := range r.registersOf("T") {
				for _, m := range r.places() {
					for _, n := range r.numbers() {
						if r.op != api.OpMulx || d != s {
							l = append(l, api.Inst{Op: r.op, D: d, S: s, T: t, M: m, Imm: n})
						}
					}
				}
			}
		}
	}
	return l
}
