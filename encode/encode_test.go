package encode

import (
	"math"
	"slices"
	"strings"
	"testing"

	"keysmith/api"
	"keysmith/inst"
)

// held holds an instruction's bytes, and how many there are, against what they should be.
func held(t *testing.T, i api.Inst, want string) {
	t.Helper()
	if s, e := Inst(i); e != api.OK || s != want {
		t.Fatalf("Inst of %+v: %x, %d, not %x", i, s, e, want)
	}
	if n := Size(i); n != len(want) {
		t.Fatalf("Size of %+v: %d, not %d", i, n, len(want))
	}
}

// P6.1: every operation has a row of its own in the tests.
func TestRowsAreOfAllOperations(t *testing.T) {
	for n, r := range rows() {
		if r.op != n+1 {
			t.Errorf("row %d is of %d", n, r.op)
		}
		for _, i := range r.all() {
			if inst.Check(i) != api.OK {
				t.Fatalf("%+v may not be", i)
			}
		}
	}
	if len(rows()) != api.OpRet {
		t.Error(len(rows()))
	}
}

// P6.1: All of all registers, with numbers and places at the edges, of each operation
func TestAllOfEachOperation(t *testing.T) {
	for _, r := range rows() {
		l := r.all()
		got, e := All(l)
		if e != api.OK {
			t.Fatal(e)
		}
		for _, i := range l {
			want := r.bytes(i)
			rest, begins := strings.CutPrefix(got, want)
			if !begins {
				t.Fatalf("%+v: %x, not %x", i, got[:min(11, len(got))], want)
			}
			got = rest
		}
		if got != "" {
			t.Errorf("%d: %x is left", r.op, got)
		}
	}
}

// P6.1: Inst and Size of each operation
func TestInstOfEachOperation(t *testing.T) {
	for _, r := range rows() {
		l, step := r.all(), 1
		if len(l) > 5000 {
			// 17 divides none of the numbers of registers, places and numbers, so all of them are met.
			step = 17
		}
		for n := 0; n < len(l); n += step {
			held(t, l[n], r.bytes(l[n]))
		}
	}
}

func at(base, index, scale int, disp int64) api.Mem {
	return api.Mem{Base: base, Index: index, Scale: scale, Disp: disp}
}

// P6.1: bytes as they are known elsewhere: the edges of registers and numbers
func TestKnownBytes(t *testing.T) {
	for _, c := range []struct {
		i    api.Inst
		want string
	}{
		{api.Inst{Op: api.OpMov, D: api.RAX, S: api.RCX}, "\x48\x89\xc8"},
		{api.Inst{Op: api.OpMov, D: api.R15, S: api.R8}, "\x4d\x89\xc7"},
		{api.Inst{Op: api.OpMovImm, D: api.RDI, Imm: -2}, "\x48\xbf\xfe\xff\xff\xff\xff\xff\xff\xff"},
		{api.Inst{Op: api.OpMovImm, D: api.R9, Imm: 0x0102030405060708}, "\x49\xb9\x08\x07\x06\x05\x04\x03\x02\x01"},
		{api.Inst{Op: api.OpAdd, D: api.R8, S: api.RDI}, "\x49\x01\xf8"},
		{api.Inst{Op: api.OpAdc, D: api.RDI, S: api.R8}, "\x4c\x11\xc7"},
		{api.Inst{Op: api.OpSub, D: api.RSP, S: api.RBP}, "\x48\x29\xec"},
		{api.Inst{Op: api.OpSbb, D: api.RDX, S: api.RDX}, "\x48\x19\xd2"},
		{api.Inst{Op: api.OpAnd, D: api.RBX, S: api.RSI}, "\x48\x21\xf3"},
		{api.Inst{Op: api.OpOr, D: api.R12, S: api.R13}, "\x4d\x09\xec"},
		{api.Inst{Op: api.OpXor, D: api.RAX, S: api.RAX}, "\x48\x31\xc0"},
		{api.Inst{Op: api.OpCmp, D: api.RAX, S: api.R15}, "\x4c\x39\xf8"},
		{api.Inst{Op: api.OpTest, D: api.RCX, S: api.RCX}, "\x48\x85\xc9"},
		{api.Inst{Op: api.OpAddImm, D: api.RAX, Imm: 1}, "\x48\x81\xc0\x01\x00\x00\x00"},
		{api.Inst{Op: api.OpAndImm, D: api.RSP, Imm: -16}, "\x48\x81\xe4\xf0\xff\xff\xff"},
		{api.Inst{Op: api.OpSubImm, D: api.R14, Imm: 1<<31 - 1}, "\x49\x81\xee\xff\xff\xff\x7f"},
		{api.Inst{Op: api.OpCmpImm, D: api.RBX, Imm: -1 << 31}, "\x48\x81\xfb\x00\x00\x00\x80"},
		{api.Inst{Op: api.OpMulx, D: api.R8, S: api.R15, T: api.R9}, "\xc4\x42\x83\xf6\xc1"},
		{api.Inst{Op: api.OpMulx, D: api.RAX, S: api.R8, T: api.R15}, "\xc4\xc2\xbb\xf6\xc7"},
		{api.Inst{Op: api.OpMulx, D: api.R15, S: api.RAX, T: api.RDX}, "\xc4\x62\xfb\xf6\xfa"},
		{api.Inst{Op: api.OpAdcx, D: api.RAX, S: api.R8}, "\x66\x49\x0f\x38\xf6\xc0"},
		{api.Inst{Op: api.OpAdox, D: api.R9, S: api.RCX}, "\xf3\x4c\x0f\x38\xf6\xc9"},
		{api.Inst{Op: api.OpNeg, D: api.R10}, "\x49\xf7\xda"},
		{api.Inst{Op: api.OpNot, D: api.RSI}, "\x48\xf7\xd6"},
		{api.Inst{Op: api.OpShl, D: api.RCX, Imm: 63}, "\x48\xc1\xe1\x3f"},
		{api.Inst{Op: api.OpShr, D: api.R11, Imm: 1}, "\x49\xc1\xeb\x01"},
		{api.Inst{Op: api.OpCmovc, D: api.RAX, S: api.R9}, "\x49\x0f\x42\xc1"},
		{api.Inst{Op: api.OpCmovnz, D: api.R9, S: api.RAX}, "\x4c\x0f\x45\xc8"},
		{api.Inst{Op: api.OpPush, S: api.RDI}, "\x57"},
		{api.Inst{Op: api.OpPush, S: api.R15}, "\x41\x57"},
		{api.Inst{Op: api.OpPop, D: api.RSP}, "\x5c"},
		{api.Inst{Op: api.OpPop, D: api.R8}, "\x41\x58"},
		{api.Inst{Op: api.OpJmp, Imm: -5}, "\xe9\xfb\xff\xff\xff"},
		{api.Inst{Op: api.OpJnz, Imm: 1<<31 - 1}, "\x0f\x85\xff\xff\xff\x7f"},
		{api.Inst{Op: api.OpJc, Imm: -1 << 31}, "\x0f\x82\x00\x00\x00\x80"},
		{api.Inst{Op: api.OpRet}, "\xc3"},
	} {
		held(t, c.i, c.want)
	}
}

// P6.1: places as they are known elsewhere: RSP, RBP and their likes from R8 on, no Index, each scale, edges of Disp
func TestKnownPlaces(t *testing.T) {
	for _, c := range []struct {
		m    api.Mem
		want string
	}{
		{at(api.RAX, api.None, 1, 0), "\x48\x8b\x08"},
		{at(api.RAX, api.None, 1, 1), "\x48\x8b\x48\x01"},
		{at(api.RAX, api.None, 1, 127), "\x48\x8b\x48\x7f"},
		{at(api.RAX, api.None, 1, 128), "\x48\x8b\x88\x80\x00\x00\x00"},
		{at(api.RAX, api.None, 1, -128), "\x48\x8b\x48\x80"},
		{at(api.RAX, api.None, 1, -129), "\x48\x8b\x88\x7f\xff\xff\xff"},
		{at(api.RBP, api.None, 1, 0), "\x48\x8b\x4d\x00"},
		{at(api.R13, api.None, 1, 0), "\x49\x8b\x4d\x00"},
		{at(api.R13, api.None, 1, 1<<31-1), "\x49\x8b\x8d\xff\xff\xff\x7f"},
		{at(api.RSP, api.None, 1, 0), "\x48\x8b\x0c\x24"},
		{at(api.R12, api.None, 1, 0), "\x49\x8b\x0c\x24"},
		{at(api.R12, api.None, 1, -8), "\x49\x8b\x4c\x24\xf8"},
		{at(api.RSP, api.None, 1, -1<<31), "\x48\x8b\x8c\x24\x00\x00\x00\x80"},
		{at(api.RAX, api.RAX, 1, 0), "\x48\x8b\x0c\x00"},
		{at(api.RBX, api.RSI, 2, 0), "\x48\x8b\x0c\x73"},
		{at(api.RSP, api.RBP, 4, 0), "\x48\x8b\x0c\xac"},
		{at(api.RBP, api.RBP, 8, 0), "\x48\x8b\x4c\xed\x00"},
		{at(api.R13, api.R13, 8, 0), "\x4b\x8b\x4c\xed\x00"},
		{at(api.RAX, api.R12, 8, 0), "\x4a\x8b\x0c\xe0"},
		{at(api.R8, api.R15, 1, 5), "\x4b\x8b\x4c\x38\x05"},
	} {
		held(t, api.Inst{Op: api.OpLoad, D: api.RCX, M: c.m}, c.want)
		held(t, api.Inst{Op: api.OpStore, S: api.RCX, M: c.m}, c.want[:1]+"\x89"+c.want[2:])
		held(t, api.Inst{Op: api.OpLea, D: api.RCX, M: c.m}, c.want[:1]+"\x8d"+c.want[2:])
		// R9 differs from RCX by a bit of the first byte.
		held(t, api.Inst{Op: api.OpLoad, D: api.R9, M: c.m}, string([]byte{c.want[0] | 4})+c.want[1:])
	}
}

// wrong answers instructions that may not be.
func wrong() []api.Inst {
	l := []api.Inst{
		{},
		{Op: -1},
		{Op: api.OpRet + 1},
		{Op: math.MinInt},
		{Op: math.MaxInt},
		{Op: 256 + api.OpRet},
		{Op: api.OpMov, D: 16},
		{Op: api.OpMov, S: -1},
		{Op: api.OpMov, D: math.MinInt, S: math.MaxInt},
		{Op: api.OpMov, Imm: 1},
		{Op: api.OpMov, T: 1},
		{Op: api.OpMov, M: api.Mem{Scale: 1}},
		{Op: api.OpAddImm, Imm: 1 << 31},
		{Op: api.OpCmpImm, Imm: -1<<31 - 1},
		{Op: api.OpMulx},
		{Op: api.OpMulx, D: 9, S: 9, T: 1},
		{Op: api.OpShl},
		{Op: api.OpShr, Imm: 64},
		{Op: api.OpShl, Imm: -1},
		{Op: api.OpPush, D: 1},
		{Op: api.OpPop, S: 1},
		{Op: api.OpJmp, Imm: 1 << 31},
		{Op: api.OpJc, D: 1},
		{Op: api.OpRet, Imm: 1},
	}
	for _, m := range []api.Mem{
		{}, at(16, -1, 1, 0), at(-1, -1, 1, 0),
		at(0, -2, 1, 0), at(0, 16, 1, 0), at(0, api.RSP, 1, 0),
		at(0, -1, 2, 0), at(0, 1, 3, 0), at(0, 1, 0, 0), at(0, 1, 16, 0), at(0, 1, math.MinInt, 0),
		at(0, -1, 1, 1<<31), at(0, -1, 1, -1<<31-1), at(math.MaxInt, math.MaxInt, 1, math.MaxInt64),
	} {
		l = append(l, api.Inst{Op: api.OpLoad, M: m}, api.Inst{Op: api.OpStore, M: m}, api.Inst{Op: api.OpLea, M: m})
	}
	return l
}

// P6.1: of what may not be there is inst.Check's error, and nothing else, wherever it stands in a list.
func TestWhatMayNotBe(t *testing.T) {
	good := []api.Inst{{Op: api.OpRet}, {Op: api.OpMov, D: 1}, {Op: api.OpPush, S: 9}}
	for _, i := range wrong() {
		if e := inst.Check(i); e != api.ErrArg {
			t.Fatalf("%+v may be", i)
		}
		if s, e := Inst(i); e != api.ErrArg || s != "" {
			t.Errorf("Inst of %+v: %x, %d", i, s, e)
		}
		if n := Size(i); n != 0 {
			t.Errorf("Size of %+v: %d", i, n)
		}
		for n := range len(good) + 1 {
			l := slices.Insert(slices.Clone(good), n, i)
			if s, e := All(l); e != api.ErrArg || s != "" {
				t.Errorf("All with %+v at %d: %x, %d", i, n, s, e)
			}
		}
		if s, e := All([]api.Inst{i, {Op: -7}, i}); e != api.ErrArg || s != "" {
			t.Errorf("All of wrong ones: %x, %d", s, e)
		}
	}
}

// P6.1: Inst and All answer alike, of every operation with each part wrong in turn, too.
func TestEachPartWrong(t *testing.T) {
	for _, r := range rows() {
		i := r.all()[0]
		for _, n := range []int{-2, -1, 1, 16, math.MaxInt} {
			for _, other := range []api.Inst{
				{Op: i.Op, D: n, S: i.S, T: i.T, M: i.M, Imm: i.Imm},
				{Op: i.Op, D: i.D, S: n, T: i.T, M: i.M, Imm: i.Imm},
				{Op: i.Op, D: i.D, S: i.S, T: n, M: i.M, Imm: i.Imm},
				{Op: i.Op, D: i.D, S: i.S, T: i.T, M: at(n, i.M.Index, i.M.Scale, i.M.Disp), Imm: i.Imm},
				{Op: i.Op, D: i.D, S: i.S, T: i.T, M: at(i.M.Base, n, i.M.Scale, i.M.Disp), Imm: i.Imm},
				{Op: i.Op, D: i.D, S: i.S, T: i.T, M: at(i.M.Base, i.M.Index, n, i.M.Disp), Imm: i.Imm},
				{Op: i.Op, D: i.D, S: i.S, T: i.T, M: at(i.M.Base, i.M.Index, i.M.Scale, int64(n)), Imm: i.Imm},
				{Op: i.Op, D: i.D, S: i.S, T: i.T, M: i.M, Imm: int64(n)},
			} {
				want, may := "", inst.Check(other)
				if may == api.OK {
					want = r.bytes(other)
				}
				if s, e := Inst(other); s != want || e != may {
					t.Errorf("Inst of %+v: %x, %d, not %x, %d", other, s, e, want, may)
				}
				if s, e := All([]api.Inst{other}); s != want || e != may || Size(other) != len(want) {
					t.Errorf("All of %+v: %x, %d, not %x, %d", other, s, e, want, may)
				}
			}
		}
	}
}

// P6.1: All of none, of one, of many: one behind the other
func TestAllOneBehindTheOther(t *testing.T) {
	for _, l := range [][]api.Inst{nil, {}, make([]api.Inst, 0, 5)} {
		if s, e := All(l); s != "" || e != api.OK {
			t.Errorf("All of none: %x, %d", s, e)
		}
	}
	var l []api.Inst
	want := ""
	for _, r := range rows() {
		all := r.all()
		for n := range 7 {
			i := all[(n*977+r.op*31)%len(all)]
			s, _ := Inst(i)
			l, want = append(l, i), want+s
			if got, e := All(l); got != want || e != api.OK {
				t.Fatalf("All of %d: %x, %d, not %x", len(l), got, e, want)
			}
		}
	}
}

// DOC.md's rules 3 and 6: a list that is handed in stays, its spare room too, and what is answered is the same each time.
func TestListStays(t *testing.T) {
	whole := []api.Inst{{Op: api.OpRet}, {Op: api.OpPop, D: 9}, {Op: -1}, {Op: api.OpRet}}
	before := slices.Clone(whole)
	for range 3 {
		if s, e := All(whole[:2]); s != "\xc3\x41\x59" || e != api.OK {
			t.Errorf("%x, %d", s, e)
		}
	}
	if !slices.Equal(whole, before) {
		t.Error(whole)
	}
	s, _ := All(whole[:2])
	whole[0].Op, whole[1].D = api.OpJmp, 0
	if s != "\xc3\x41\x59" {
		t.Errorf("%x", s)
	}
}

// P6.2: no instruction's bytes begin another one's, so none are alike either; they are at most 11.
func TestNoneBeginsAnother(t *testing.T) {
	var l []string
	for _, r := range rows() {
		for _, i := range r.all() {
			s, e := Inst(i)
			if e != api.OK || len(s) < 1 || len(s) > 11 {
				t.Fatalf("%+v: %x, %d", i, s, e)
			}
			l = append(l, s)
		}
	}
	slices.Sort(l)
	// What begins with a text stands right behind it.
	for n := range len(l) - 1 {
		if strings.HasPrefix(l[n+1], l[n]) {
			t.Fatalf("%x begins %x", l[n], l[n+1])
		}
	}
}

// The document's examples of layer 6, and the README's.
func TestExamples(t *testing.T) {
	held(t, api.Inst{Op: api.OpAdc, D: api.RAX, S: api.RCX}, "\x48\x11\xc8")
	held(t, api.Inst{Op: api.OpLoad, D: api.R9, M: api.Mem{Base: api.RSP, Index: api.None, Scale: 1, Disp: 8}}, "\x4c\x8b\x4c\x24\x08")
	mulx := api.Inst{Op: api.OpMulx, D: api.RAX, S: api.RCX, T: api.RSI}
	held(t, mulx, "\xc4\xe2\xf3\xf6\xc6")
	if s, e := All([]api.Inst{mulx, {Op: api.OpRet}}); s != "\xc4\xe2\xf3\xf6\xc6\xc3" || e != api.OK {
		t.Errorf("%x, %d", s, e)
	}
	if n := Size(api.Inst{Op: api.OpPush, S: 16}); n != 0 {
		t.Error(n)
	}
}
