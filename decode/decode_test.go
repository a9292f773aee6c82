package decode

import (
	"math"
	"math/rand"
	"slices"
	"testing"

	"keysmith/api"
	"keysmith/encode"
	"keysmith/inst"
)

// told holds what is told of the place against what should be.
func told(t *testing.T, code string, at int, want api.Inst, size int, err api.Errno) {
	t.Helper()
	if i, n, e := Inst(code, at); i != want || n != size || e != err {
		t.Fatalf("Inst of % x at %d: %+v, %d, %d, not %+v, %d, %d", code, at, i, n, e, want, size, err)
	}
}

// like holds what is told of the bytes' beginning against the model.
func like(t *testing.T, l []ready, code string) {
	t.Helper()
	want, size := model(l, code)
	if size == 0 {
		told(t, code, 0, api.Inst{}, 0, api.ErrBad)
		return
	}
	told(t, code, 0, want, size, api.OK)
	if s, e := encode.Inst(want); s != code[:size] || e != api.OK {
		t.Fatalf("%+v: % x, %d, not % x", want, s, e, code[:size])
	}
}

func placesOf(op int) []api.Mem {
	var l []api.Mem
	if op != api.OpLoad && op != api.OpStore && op != api.OpLea {
		return nil
	}
	for base := range 16 {
		for _, disp := range []int64{0, 1, -1, 127, -128, 128, -129, 0x12345678, 1<<31 - 1, -1 << 31} {
			l = append(l, api.Mem{Base: base, Index: api.None, Scale: 1, Disp: disp})
			for index := range 16 {
				for scale := 1; scale <= 8 && index != api.RSP; scale *= 2 {
					l = append(l, api.Mem{Base: base, Index: index, Scale: scale, Disp: disp})
				}
			}
		}
	}
	return l
}

// some answers instructions of the operation: all registers, places and numbers at the edges.
func some(op int) []api.Inst {
	var l []api.Inst
	add := func(i api.Inst) {
		if inst.Check(i) == api.OK {
			l = append(l, i)
		}
	}
	numbers := []int64{0, 1, 2, 31, 32, 62, 63, 64, -1, -2, 127, 128, -128, -129, 255, 256, 0x12345678, 1<<31 - 1, -1 << 31, 1 << 31, 1 << 32, 0x123456789abcdef, -1<<31 - 1, 1<<63 - 1, -1 << 63}
	for d := range 16 {
		for _, n := range numbers {
			add(api.Inst{Op: op, D: d, Imm: n})
		}
		for s := range 16 {
			for tt := range 16 {
				add(api.Inst{Op: op, D: d, S: s, T: tt})
			}
		}
	}
	for _, m := range placesOf(op) {
		for r := range 16 {
			add(api.Inst{Op: op, D: r, M: m})
			add(api.Inst{Op: op, S: r, M: m})
		}
	}
	slices.SortFunc(l, compare)
	return slices.Compact(l)
}

func compare(a, b api.Inst) int {
	one := []int64{int64(a.D), int64(a.S), int64(a.T), int64(a.M.Base), int64(a.M.Index), int64(a.M.Scale), a.M.Disp, a.Imm}
	other := []int64{int64(b.D), int64(b.S), int64(b.T), int64(b.M.Base), int64(b.M.Index), int64(b.M.Scale), b.M.Disp, b.Imm}
	return slices.Compare(one, other)
}

// sample answers some of each operation's instructions, so many at most.
func sample(most int) []api.Inst {
	var out []api.Inst
	for op := api.OpMov; op <= api.OpRet; op++ {
		l := some(op)
		for n := range min(most, len(l)) {
			out = append(out, l[n*len(l)/min(most, len(l))])
		}
	}
	return out
}

// P7.1, P7.2: All of each operation's instructions answers them as they were.
func TestAllOfWhatIsEncoded(t *testing.T) {
	for op := api.OpMov; op <= api.OpRet; op++ {
		want := some(op)
		code, e := encode.All(want)
		if len(want) == 0 || e != api.OK {
			t.Fatal(op, len(want), e)
		}
		l, n, e := All(code)
		if !slices.Equal(l, want) || n != len(code) || e != api.OK {
			t.Errorf("%d: %d of %d, %d of %d bytes, %d", op, len(l), len(want), n, len(code), e)
		}
	}
}

// P7.1, P7.2: Inst answers what was encoded, whatever stands ahead of it and behind; the model does, too.
func TestInstOfWhatIsEncoded(t *testing.T) {
	f := forms()
	for _, i := range sample(600) {
		s, _ := encode.Inst(i)
		told(t, s, 0, i, len(s), api.OK)
		told(t, "\x00\xff"+s+"\xc3\x00", 2, i, len(s), api.OK)
		if m, size := model(f, s); m != i || size != len(s) {
			t.Fatalf("%+v: the model has %+v, %d", i, m, size)
		}
	}
}

// P7.1: what ends too early is no instruction, at the bytes' end nothing stands.
func TestTooShort(t *testing.T) {
	for _, i := range sample(60) {
		s, _ := encode.Inst(i)
		for n := 1; n < len(s); n++ {
			told(t, s[:n], 0, api.Inst{}, 0, api.ErrBad)
			told(t, "\xc3"+s[:n], 1, api.Inst{}, 0, api.ErrBad)
		}
		told(t, s, len(s), api.Inst{}, 0, api.ErrMore)
	}
}

// P7.1: ErrArg of places that there are not; ErrMore at the end
func TestPlaces(t *testing.T) {
	for _, s := range []string{"", "\xc3", "\x00", "\x48\x11\xc8", "\x48\x11\xc8\x00"} {
		for _, at := range []int{-1, -2, math.MinInt, len(s) + 1, len(s) + 2, math.MaxInt} {
			told(t, s, at, api.Inst{}, 0, api.ErrArg)
		}
		told(t, s, len(s), api.Inst{}, 0, api.ErrMore)
	}
	code := "\x48\x11\xc8\xc3"
	told(t, code, 0, api.Inst{Op: api.OpAdc, D: api.RAX, S: api.RCX}, 3, api.OK)
	told(t, code, 1, api.Inst{}, 0, api.ErrBad)
	told(t, code, 2, api.Inst{}, 0, api.ErrBad)
	told(t, code, 3, api.Inst{Op: api.OpRet}, 1, api.OK)
}

// P7.1: bytes of up to two, all of them
func TestFirstBytes(t *testing.T) {
	f := forms()
	for a := range 256 {
		like(t, f, string([]byte{byte(a)}))
		for b := range 256 {
			like(t, f, string([]byte{byte(a), byte(b)}))
		}
	}
}

// P7.1: the second byte and the third, all of them, behind each first one from 0x40 to 0x4f that tells one thing, with something behind
func TestSecondAndThirdBytes(t *testing.T) {
	f, chance := forms(), rand.New(rand.NewSource(7))
	for _, first := range []byte{0x40, 0x41, 0x48, 0x49, 0x4a, 0x4c} {
		for second := range 256 {
			for third := range 256 {
				tail := []byte{first, byte(second), byte(third), byte(chance.Int()), byte(chance.Intn(3) - 1), 0, 0, 0, 0, 0, 0}
				if third%3 == 0 {
					chance.Read(tail[4:])
				}
				like(t, f, string(tail))
			}
		}
	}
}

// P7.1: bytes of places: all registers, scales, and numbers that could stand in fewer bytes
func TestBytesOfPlaces(t *testing.T) {
	f := forms()
	numbers := []string{"\x00\x00\x00\x00", "\x01\x00\x00\x00", "\x7f\x00\x00\x00", "\x80\x00\x00\x00", "\x80\xff\xff\xff", "\x7f\xff\xff\xff", "\xff\xff\xff\xff"}
	for _, first := range []byte{0x48, 0x49, 0x4a, 0x4f} {
		for mode := range 3 {
			for scale := range 256 {
				for n, number := range numbers {
					op := "\x8b\x89\x8d"[n%3]
					like(t, f, string([]byte{first, op, byte(mode<<6 | 0x0c), byte(scale)})+number)
					like(t, f, string([]byte{first, op, byte(mode<<6 | scale&63)})+number)
				}
			}
		}
	}
}

// P7.1, P7.2: instructions with a byte that is another one: what is no instruction is none, what is another one is that one.
func TestOtherBytes(t *testing.T) {
	f := forms()
	for _, i := range sample(5) {
		s, _ := encode.Inst(i)
		for n := range len(s) {
			for b := range 256 {
				code := []byte(s)
				code[n] = byte(b)
				like(t, f, string(code))
				like(t, f, string(code)+"\x00\x24\x05")
			}
		}
	}
}

// P7.1: no instruction, though near to one
func TestNoInstruction(t *testing.T) {
	for _, s := range []string{
		"\x00", "\x90", "\xff", "\x48", "\x48\x90", "\x40\x50", "\x42\x50", "\x41\x60", "\x41\x41\x50", "\x48\x50",
		"\x40\x11\xc8", "\x11\xc8", "\x4a\x11\xc8", "\x48\x13\xc1", "\x48\x11\x08",
		"\x48\x8b\xc8", "\x48\x8d\xc8", "\x4a\x8b\x08",
		"\x4a\xb8\x00\x00\x00\x00\x00\x00\x00\x00", "\x4c\xb8\x00\x00\x00\x00\x00\x00\x00\x00",
		"\x48\xc7\xc0\x01\x00\x00\x00", "\x48\x83\xc0\x01", "\x48\x81\xc8\x01\x00\x00\x00", "\x4c\x81\xc0\x01\x00\x00\x00", "\x48\x81\x00\x01\x00\x00\x00",
		"\x48\xc1\xe0\x00", "\x48\xc1\xe0\x40", "\x48\xc1\xe0\xff", "\x48\xc1\xf8\x01", "\x48\xd1\xe0", "\x48\xc1\x20\x01",
		"\x48\xf7\xe0", "\x48\xf7\x18", "\x4c\xf7\xd8",
		"\x48\x0f\x44\xc1", "\x48\x0f\x42\x01", "\x4a\x0f\x42\xc1", "\x48\x0f\xaf\xc1",
		"\xc4\xe2\xf3\xf6\xc9", "\xc4\xe2\xf3\xf6\x06", "\xc4\xa2\xf3\xf6\xc6", "\xc4\xe3\xf3\xf6\xc6", "\xc4\xe2\x73\xf6\xc6", "\xc4\xe2\xf7\xf6\xc6", "\xc4\xe2\xf2\xf6\xc6", "\xc4\xe2\xf3\xf5\xc6",
		"\x66\x0f\x38\xf6\xc1", "\x66\x48\x0f\x39\xf6\xc1", "\x66\x48\x0e\x38\xf6\xc1", "\x66\x48\x0f\x38\xf7\xc1", "\x66\x4a\x0f\x38\xf6\xc1", "\xf3\x48\x0f\x38\xf6\x01", "\xf2\x48\x0f\x38\xf6\xc1", "\x66\x40\x0f\x38\xf6\xc1",
		"\x0f\x84\x00\x00\x00\x00", "\x0f\x05", "\xeb\x00", "\x75\x00", "\xc2\x00\x00", "\xcb",
		"\x48\x8b\x04\x20", "\x48\x8b\x0c\x64", "\x48\x8b\x4c\x24\x00", "\x48\x8b\x48\x00", "\x48\x8b\x88\x7f\x00\x00\x00", "\x48\x8b\x88\x80\xff\xff\xff",
		"\x48\x8b\x0d\x00\x00\x00\x00", "\x48\x8b\x0c\x25\x00\x00\x00\x00", "\x48\x8b\x0c\x05\x00\x00\x00\x00",
	} {
		told(t, s, 0, api.Inst{}, 0, api.ErrBad)
		told(t, s+"\xc3\xc3\xc3\xc3\xc3\xc3\xc3\xc3", 0, api.Inst{}, 0, api.ErrBad)
	}
}

// held holds All and Each against what should be told.
func held(t *testing.T, code string, want []api.Inst, at int, err api.Errno) {
	t.Helper()
	l, n, e := All(code)
	if !slices.Equal(l, want) || n != at || e != err {
		t.Fatalf("All of % x: %+v, %d, %d, not %+v, %d, %d", code, l, n, e, want, at, err)
	}
	k, place := 0, 0
	for p, i := range Each(code) {
		if k == len(want) || p != place || i != want[k] {
			t.Fatalf("Each of % x: %+v at %d, %d", code, i, p, k)
		}
		k, place = k+1, place+encode.Size(i)
	}
	if k != len(want) {
		t.Fatalf("Each of % x: %d, not %d", code, k, len(want))
	}
}

// P7.1: All and Each of none, of one, of many; of wrong bytes at each place, whatever stands behind
func TestAllAndEach(t *testing.T) {
	held(t, "", nil, 0, api.OK)
	l := sample(2)
	slices.Reverse(l)
	code := ""
	for n, i := range l {
		s, _ := encode.Inst(i)
		for _, bad := range []string{"\x00", "\x90\xc3\xc3", "\x48\x8b\x4c\x24\x00\xc3", "\x48\xc1\xe0\x40" + code, "\x06" + s} {
			held(t, code+bad, l[:n], len(code), api.ErrBad)
		}
		for k := 1; k < len(s); k++ {
			held(t, code+s[:k], l[:n], len(code), api.ErrBad)
		}
		code += s
		held(t, code, l[:n+1], len(code), api.OK)
	}
}

// P7.1: All and Each of any bytes are as Inst of each place is.
func TestAnyBytes(t *testing.T) {
	chance := rand.New(rand.NewSource(1))
	l := sample(20)
	for range 3000 {
		code := ""
		for range chance.Intn(6) {
			s, _ := encode.Inst(l[chance.Intn(len(l))])
			code += s
		}
		b := []byte(code)
		for range chance.Intn(2) {
			if len(b) > 0 {
				b[chance.Intn(len(b))] = byte(chance.Int())
			}
		}
		code = string(b)
		var want []api.Inst
		at := 0
		i, n, e := Inst(code, at)
		for e == api.OK {
			want = append(want, i)
			at += n
			i, n, e = Inst(code, at)
		}
		if e == api.ErrMore {
			e = api.OK
		}
		held(t, code, want, at, e)
	}
}

// P7.1: Each may be left, and gone through again.
func TestEachLeftAndAgain(t *testing.T) {
	each := Each("\xc3\x50\x41\x58\xc3\x00\xc3")
	for stop := 1; stop <= 4; stop++ {
		k := 0
		for range each {
			k++
			if k == stop {
				break
			}
		}
		if k != stop {
			t.Error(k, stop)
		}
	}
	var at []int
	var ops []int
	for p, i := range each {
		at, ops = append(at, p), append(ops, i.Op)
	}
	if !slices.Equal(at, []int{0, 1, 2, 4}) || !slices.Equal(ops, []int{api.OpRet, api.OpPush, api.OpPop, api.OpRet}) {
		t.Error(at, ops)
	}
}

// DOC.md's rules 3 and 6: lists are new ones, and alike each time.
func TestNewLists(t *testing.T) {
	for _, code := range []string{"\xc3\x50\xc3", "\xc3\x50\xc3\x00"} {
		one, _, _ := All(code)
		other, _, _ := All(code)
		one = append(one[:1], api.Inst{Op: api.OpNeg}, api.Inst{Op: api.OpNot}, api.Inst{Op: api.OpNot})
		one[0].Op = api.OpJmp
		if !slices.Equal(other, []api.Inst{{Op: api.OpRet}, {Op: api.OpPush}, {Op: api.OpRet}}) {
			t.Error(other)
		}
	}
}

// The document's examples of layer 7, and the README's.
func TestExamples(t *testing.T) {
	told(t, "\x48\x11\xc8", 0, api.Inst{Op: api.OpAdc, D: api.RAX, S: api.RCX}, 3, api.OK)
	told(t, "", 0, api.Inst{}, 0, api.ErrMore)
	told(t, "\x48\x8b", 0, api.Inst{}, 0, api.ErrBad)
	told(t, "\x48\x8b\x4c\x24\x00", 0, api.Inst{}, 0, api.ErrBad)
	mulx := api.Inst{Op: api.OpMulx, D: api.RAX, S: api.RCX, T: api.RSI}
	told(t, "\xc4\xe2\xf3\xf6\xc6\xc3", 0, mulx, 5, api.OK)
	held(t, "\xc4\xe2\xf3\xf6\xc6\xc3", []api.Inst{mulx, {Op: api.OpRet}}, 6, api.OK)
	held(t, "\xc4\xe2\xf3\xf6\xc6\xc3\x48\x8b", []api.Inst{mulx, {Op: api.OpRet}}, 6, api.ErrBad)
}
