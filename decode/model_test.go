package decode

import (
	"strings"

	"keysmith/api"
)

// form is how an operation's instructions stand in bytes, by hand. A capital letter is a register's fourth bit (D, S, T; X and B of a place), three small ones are its lower bits (an exclamation mark ahead of a letter: each bit stands the other way round), cc is the scale. Behind the bits comes a number of so many bytes.
type form struct {
	op     int
	bits   string
	number int
}

// ready is a form with its bits by bytes.
type ready struct {
	form
	parts []string
}

// simple answers the forms without a place.
func simple() []form {
	return []form{
		{api.OpMov, "01001S0D 10001001 11sssddd", 0},
		{api.OpMovImm, "0100100D 10111ddd", 8},
		{api.OpAdd, "01001S0D 00000001 11sssddd", 0},
		{api.OpAdc, "01001S0D 00010001 11sssddd", 0},
		{api.OpSub, "01001S0D 00101001 11sssddd", 0},
		{api.OpSbb, "01001S0D 00011001 11sssddd", 0},
		{api.OpAnd, "01001S0D 00100001 11sssddd", 0},
		{api.OpOr, "01001S0D 00001001 11sssddd", 0},
		{api.OpXor, "01001S0D 00110001 11sssddd", 0},
		{api.OpCmp, "01001S0D 00111001 11sssddd", 0},
		{api.OpTest, "01001S0D 10000101 11sssddd", 0},
		{api.OpAddImm, "0100100D 10000001 11000ddd", 4},
		{api.OpAndImm, "0100100D 10000001 11100ddd", 4},
		{api.OpSubImm, "0100100D 10000001 11101ddd", 4},
		{api.OpCmpImm, "0100100D 10000001 11111ddd", 4},
		{api.OpMulx, "11000100 !D1!T00010 1!S!s!s!s011 11110110 11dddttt", 0},
		{api.OpAdcx, "01100110 01001D0S 00001111 00111000 11110110 11dddsss", 0},
		{api.OpAdox, "11110011 01001D0S 00001111 00111000 11110110 11dddsss", 0},
		{api.OpNeg, "0100100D 11110111 11011ddd", 0},
		{api.OpNot, "0100100D 11110111 11010ddd", 0},
		{api.OpShl, "0100100D 11000001 11100ddd", 1},
		{api.OpShr, "0100100D 11000001 11101ddd", 1},
		{api.OpCmovc, "01001D0S 00001111 01000010 11dddsss", 0},
		{api.OpCmovnz, "01001D0S 00001111 01000101 11dddsss", 0},
		{api.OpPush, "01010sss", 0},
		{api.OpPush, "0100000S 01010sss", 0},
		{api.OpPop, "01011ddd", 0},
		{api.OpPop, "0100000D 01011ddd", 0},
		{api.OpJmp, "11101001", 4},
		{api.OpJnz, "00001111 10000101", 4},
		{api.OpJc, "00001111 10000010", 4},
		{api.OpRet, "11000011", 0},
	}
}

// forms answers all forms, those with a place once for each way in which a place stands.
func forms() []ready {
	l := simple()
	for _, p := range []struct {
		middle, bits string
		number       int
	}{
		{"0B", "00mmmbbb", 0}, {"0B", "01mmmbbb", 1}, {"0B", "10mmmbbb", 4},
		{"0B", "00mmm100 00100bbb", 0}, {"0B", "01mmm100 00100bbb", 1}, {"0B", "10mmm100 00100bbb", 4},
		{"XB", "00mmm100 ccxxxbbb", 0}, {"XB", "01mmm100 ccxxxbbb", 1}, {"XB", "10mmm100 ccxxxbbb", 4},
	} {
		d, s := strings.ReplaceAll(p.bits, "mmm", "ddd"), strings.ReplaceAll(p.bits, "mmm", "sss")
		l = append(l,
			form{api.OpLoad, "01001D" + p.middle + " 10001011 " + d, p.number},
			form{api.OpStore, "01001S" + p.middle + " 10001001 " + s, p.number},
			form{api.OpLea, "01001D" + p.middle + " 10001101 " + d, p.number})
	}
	var out []ready
	for _, f := range l {
		out = append(out, ready{f, strings.Fields(f.bits)})
	}
	return out
}

// model answers what instruction begins the bytes; its size is 0, if none does.
func model(l []ready, code string) (api.Inst, int) {
	for _, f := range l {
		if i, size, ok := f.read(code); ok {
			return i, size
		}
	}
	return api.Inst{}, 0
}

// read answers the instruction, if one of this form begins the bytes.
func (f ready) read(code string) (i api.Inst, size int, ok bool) {
	var letters [128]int
	parts := f.parts
	size = len(parts) + f.number
	if len(code) < size {
		return i, 0, false
	}
	for n, part := range parts {
		if !readBits(code[n], part, &letters) {
			return i, 0, false
		}
	}
	i = api.Inst{Op: f.op, D: letters['D']<<3 | letters['d'], S: letters['S']<<3 | letters['s'], T: letters['T']<<3 | letters['t']}
	number := numberOf(code[len(parts):size])
	if strings.Contains(f.bits, "bbb") {
		i.M = placeOf(f.bits, &letters)
		i.M.Disp = number
		return i, size, f.placeMay(i.M)
	}
	i.Imm = number
	return i, size, f.may(i)
}

// readBits answers whether a byte fits, and gathers its letters' bits.
func readBits(b byte, part string, letters *[128]int) bool {
	left, flip := 7, 0
	for _, c := range part {
		bit := int(b)>>left&1 ^ flip
		switch c {
		case '!':
			flip = 1
			continue
		case '0', '1':
			if bit != int(c-'0') {
				return false
			}
		default:
			letters[c] = letters[c]<<1 | bit
		}
		left, flip = left-1, 0
	}
	return true
}

// numberOf answers a number of so many bytes, with its sign.
func numberOf(s string) int64 {
	switch len(s) {
	case 1:
		return int64(int8(s[0]))
	case 4:
		return int64(int32(s[0]) | int32(s[1])<<8 | int32(s[2])<<16 | int32(s[3])<<24)
	case 8:
		return numberOf(s[:4])&(1<<32-1) | numberOf(s[4:])<<32
	}
	return 0
}

func placeOf(bits string, letters *[128]int) api.Mem {
	m := api.Mem{Base: letters['B']<<3 | letters['b'], Index: api.None, Scale: 1}
	if strings.Contains(bits, "xxx") {
		m.Index, m.Scale = letters['X']<<3|letters['x'], 1<<letters['c']
	}
	return m
}

// placeMay answers whether a place stands so, and not otherwise.
func (f form) placeMay(m api.Mem) bool {
	fourth, fifth := m.Base == api.RSP || m.Base == api.R12, m.Base == api.RBP || m.Base == api.R13
	if m.Index == api.RSP || m.Index == api.None && strings.Contains(f.bits, "00100bbb") != fourth {
		return false
	}
	switch f.number {
	case 0:
		return !fifth
	case 1:
		return m.Disp != 0 || fifth
	}
	return m.Disp < -128 || m.Disp > 127
}

// may answers whether an instruction without a place is one, and stands so.
func (f form) may(i api.Inst) bool {
	switch f.op {
	case api.OpMulx:
		return i.D != i.S
	case api.OpShl, api.OpShr:
		return 1 <= i.Imm && i.Imm <= 63
	case api.OpPush, api.OpPop:
		return (i.D+i.S >= 8) == (len(f.bits) > 8)
	}
	return true
}
