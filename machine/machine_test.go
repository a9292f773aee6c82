package machine

import (
	"bytes"
	"math"
	"math/big"
	"math/rand"
	"slices"
	"strings"
	"testing"

	"keysmith/api"
	"keysmith/decode"
	"keysmith/memory"
)

var (
	ret  = api.Inst{Op: api.OpRet}
	push = api.Inst{Op: api.OpPush, S: api.RAX}
	not  = api.Inst{Op: api.OpNot, D: api.RAX}
)

func jump(by int64) api.Inst { return api.Inst{Op: api.OpJmp, Imm: by} }

// same holds two memories against each other.
func same(a, b *memory.Memory) bool {
	return slices.EqualFunc(a.Regions(), b.Regions(), func(x, y api.Region) bool {
		return x.Base == y.Base && x.Write == y.Write && bytes.Equal(x.Bytes, y.Bytes)
	})
}

// like holds Run and Seen of code against the plain way, and answers what Run did.
func like(t *testing.T, code string, s api.State, m *memory.Memory, fuel int) (api.Ran, []api.Event) {
	t.Helper()
	wantM, seenM := m.Clone(), m.Clone()
	want := plainly(code, s, wantM, fuel)
	r, l := Run(code, s, m, fuel)
	if r != want.ran() || !slices.Equal(l, want.events()) {
		t.Fatalf("% x, %+v, %d: %+v, %v, not %+v, %v", code, s, fuel, r, l, want.ran(), want.events())
	}
	if !same(m, wantM) {
		t.Fatalf("% x, %+v, %d: the memory is %v, not %v", code, s, fuel, m.Regions(), wantM.Regions())
	}
	if seen := slices.Collect(Seen(code, s, seenM, fuel)); !slices.Equal(seen, l) {
		t.Fatalf("% x, %+v, %d: seen %v, not %v", code, s, fuel, seen, l)
	}
	if !same(seenM, wantM) {
		t.Fatalf("% x, %+v, %d: seen, the memory is %v, not %v", code, s, fuel, seenM.Regions(), wantM.Regions())
	}
	return r, l
}

// P9.1: Fetch at all places of code, of those where an instruction ends too early, or none is, too
func TestFetch(t *testing.T) {
	for _, code := range []string{
		coded(ret), coded(not, jump(-8), ret), coded(api.Inst{Op: api.OpMovImm, D: api.R9, Imm: 0x48c3c3d0f748c3}, ret),
		"\x48\x11\xc8", "\x48\x8b", "\x48\x8b\x4c\x24\x00", "\x00", "\xc3\x00\xc3", "\xe9\x00\x00\x00",
	} {
		for k := -20; k < len(code)+20; k++ {
			i, size, e := Fetch(code, uint64(1<<22+k))
			wantI, wantSize, wantE := decode.Inst(code, k)
			if wantE != api.OK {
				wantE = api.ErrFault
			}
			if i != wantI || size != wantSize || e != wantE {
				t.Errorf("% x at %d: %+v, %d, %d, not %+v, %d, %d", code, k, i, size, e, wantI, wantSize, wantE)
			}
		}
	}
}

// P9.1, by hand: what Fetch answers, and ErrFault wherever no code is
func TestFetchByHand(t *testing.T) {
	code := coded(api.Inst{Op: api.OpAdc, D: api.RAX, S: api.RCX}, ret)
	if i, size, e := Fetch(code, api.CodeBase); i != (api.Inst{Op: api.OpAdc, D: api.RAX, S: api.RCX}) || size != 3 || e != api.OK {
		t.Error(i, size, e)
	}
	if i, size, e := Fetch(code, api.CodeBase+3); i != ret || size != 1 || e != api.OK {
		t.Error(i, size, e)
	}
	for _, pc := range []uint64{0, 1, 3, api.CodeBase - 1, api.CodeBase + 1, api.CodeBase + 4, api.CodeBase + 5, api.CodeBase + 1<<32, api.CodeBase + 1<<63, 1 << 63, top, top - api.CodeBase} {
		if i, size, e := Fetch(code, pc); i != (api.Inst{}) || size != 0 || e != api.ErrFault {
			t.Error(pc, i, size, e)
		}
	}
	if i, size, e := Fetch("", api.CodeBase); i != (api.Inst{}) || size != 0 || e != api.ErrFault {
		t.Error(i, size, e)
	}
}

// P9.1: Fetch is not asked how long code may be.
func TestFetchOfLongCode(t *testing.T) {
	code := strings.Repeat("\xc3", api.MaxBytes+10)
	if i, size, e := Fetch(code, api.CodeBase+api.MaxBytes+9); i != ret || size != 1 || e != api.OK {
		t.Error(i, size, e)
	}
	if _, _, e := Fetch(code, api.CodeBase+api.MaxBytes+10); e != api.ErrFault {
		t.Error(e)
	}
}

// P9.1, the document's example
func TestReturn(t *testing.T) {
	s, m := start()
	r, l := Run(coded(ret), s, m, 1)
	want := s
	want.PC, want.Regs[api.RSP] = 1, api.StackTop
	if r != (api.Ran{State: want, Steps: 1}) || !slices.Equal(l, []api.Event{{Kind: 1, Addr: 1 << 22}, {Kind: 2, Addr: 1<<31 - 8}, {Kind: 4, Addr: 1}}) {
		t.Error(r, l)
	}
}

// P9.1: ErrArg: the state is s, nothing is done or seen, wherever the PC is.
func TestRunRefuses(t *testing.T) {
	code := coded(api.Inst{Op: api.OpStore, S: api.RDI, M: at(api.RDI, 0)}, ret)
	long := code + strings.Repeat("\xc3", api.MaxBytes+1-len(code))
	_, m := start()
	copied := *m
	for name, c := range map[string]struct {
		code string
		m    *memory.Memory
		fuel int
	}{
		"fuel below 0":             {code, m, -1},
		"fuel far below 0":         {code, m, math.MinInt},
		"too much fuel":            {code, m, api.MaxFuel + 1},
		"far too much fuel":        {code, m, math.MaxInt},
		"no memory":                {code, nil, 10},
		"no memory, no fuel":       {code, nil, 0},
		"a memory that is none":    {code, &memory.Memory{}, 10},
		"a memory that is copied":  {code, &copied, 10},
		"too long":                 {long, m, 10},
		"far too long":             {long + long, m, 10},
		"too long without fuel":    {long, m, 0},
		"no memory, code or fuel":  {"", nil, -1},
		"too long, too much, none": {long, nil, api.MaxFuel + 1},
	} {
		for _, pc := range []uint64{api.CodeBase, api.Home, 0} {
			s, before := start()
			s.PC, s.CF, s.ZF = pc, true, true
			r, l := Run(c.code, s, c.m, c.fuel)
			if r != (api.Ran{State: s, Err: api.ErrArg}) || len(l) != 0 {
				t.Errorf("%s: %+v, %v", name, r, l)
			}
			for e := range Seen(c.code, s, c.m, c.fuel) {
				t.Errorf("%s: seen %v", name, e)
			}
			if !same(m, before) {
				t.Errorf("%s: the memory is changed", name)
			}
		}
	}
}

// P9.1: the most fuel, and the most code, may be.
func TestRunOfTheMost(t *testing.T) {
	s, m := start()
	if r, _ := like(t, coded(ret), s, m, api.MaxFuel); r.Err != api.OK || r.Steps != 1 {
		t.Error(r)
	}
	// Nearly all of it is jumped over, and jumped back to.
	code := coded(jump(api.MaxBytes-10)) + strings.Repeat("\x00", api.MaxBytes-11) + "\xc3" + coded(jump(-6))
	if len(code) != api.MaxBytes {
		t.Fatal(len(code))
	}
	if r, _ := like(t, code, s, m, 100); r.Err != api.OK || r.Steps != 3 {
		t.Error(r)
	}
	s.PC = api.CodeBase + api.MaxBytes - 1
	if r, _ := like(t, code, s, m, 100); r.Err != api.ErrFault || r.Steps != 0 {
		t.Error(r)
	}
}

// P9.1: one who is home already has come home, of any fuel, whatever the code.
func TestHomeAlready(t *testing.T) {
	for _, code := range []string{"", "\x00", coded(ret), coded(jump(-5))} {
		for _, fuel := range []int{0, 1, api.MaxFuel} {
			s, m := start()
			s.PC, s.OF = api.Home, true
			if r, l := like(t, code, s, m, fuel); r != (api.Ran{State: s}) || len(l) != 0 {
				t.Error(r, l)
			}
		}
	}
}

// P9.1: home is come to by a jump, too; addresses beside it are none.
func TestHomeByJump(t *testing.T) {
	for to, want := range map[int64]api.Errno{0: api.ErrFault, 1: api.OK, 2: api.ErrFault} {
		s, m := start()
		r, l := like(t, coded(not, jump(to-8-api.CodeBase)), s, m, 5)
		if r.Err != want || r.Steps != 2 || r.State.PC != uint64(to) || len(l) != 3 {
			t.Error(to, r, l)
		}
		s, m = start()
		m.Store(api.StackTop-8, uint64(to))
		if r, _ := like(t, coded(ret), s, m, 5); r.Err != want || r.Steps != 1 || r.State.PC != uint64(to) {
			t.Error(to, r)
		}
	}
}

// P9.1: ErrFull as soon as fuel is gone, ahead of a step that could not be done, too; just enough fuel is enough.
func TestFuel(t *testing.T) {
	for _, c := range []struct {
		code string
		end  int // how many steps there are ahead of the end
		why  api.Errno
	}{
		{coded(not, not, not, ret), 4, api.OK},
		{coded(not, not, not), 3, api.ErrFault},
		{coded(not, not, not) + "\x00", 3, api.ErrFault},
		{coded(not, not, not, api.Inst{Op: api.OpLoad, D: api.RAX, M: at(api.RBX, 0)}), 3, api.ErrFault},
	} {
		for fuel := range 8 {
			s, m := start()
			r, l := like(t, c.code, s, m, fuel)
			why := c.why
			if fuel < c.end || fuel == c.end && c.why != api.OK {
				why = api.ErrFull
			}
			if r.Err != why || r.Steps != min(fuel, c.end) {
				t.Errorf("% x, %d: %+v", c.code, fuel, r)
			}
			if n := min(fuel, 3); fuel < 4 && (len(l) != n || r.State.PC != api.CodeBase+3*uint64(n)) {
				t.Errorf("% x, %d: %+v, %v", c.code, fuel, r, l)
			}
		}
	}
}

// P9.1: a run that never ends does when fuel is gone.
func TestFuelOfEndlessRuns(t *testing.T) {
	s, m := start()
	if r, l := like(t, coded(jump(-5)), s, m, 100000); r != (api.Ran{State: s, Steps: 100000, Err: api.ErrFull}) || len(l) != 200000 {
		t.Error(r, len(l))
	}
	s.PC = 0
	if r, l := like(t, "", s, m, 0); r != (api.Ran{State: s, Err: api.ErrFull}) || len(l) != 0 {
		t.Error(r, l)
	}
}

// P9.1: ErrFault of Fetch: the state, the steps and what was seen are those up to there.
func TestFaultOfFetch(t *testing.T) {
	for name, c := range map[string]struct {
		code  string
		steps int
		pc    uint64
	}{
		"no code":           {"", 0, api.CodeBase},
		"no instruction":    {"\x00", 0, api.CodeBase},
		"behind the end":    {coded(not, not), 2, api.CodeBase + 6},
		"cut off":           {coded(not) + "\x48\x8b", 1, api.CodeBase + 3},
		"into another":      {coded(jump(-3)), 1, api.CodeBase + 2},
		"ahead of the code": {coded(not, jump(-9)), 2, api.CodeBase - 1},
		"to the end":        {coded(jump(1), ret), 1, api.CodeBase + 6},
		"far behind":        {coded(jump(1 << 30)), 1, api.CodeBase + 5 + 1<<30},
		"round at 2^64":     {coded(jump(-1 << 31)), 1, top - 1<<31 + api.CodeBase + 6},
	} {
		s, m := start()
		r, l := like(t, c.code, s, m, 100)
		if r.Err != api.ErrFault || r.Steps != c.steps || r.State.PC != c.pc {
			t.Errorf("%s: %+v", name, r)
		}
		if n := len(slices.DeleteFunc(l, func(e api.Event) bool { return e.Kind != api.EventStep })); n != c.steps {
			t.Errorf("%s: %d steps are seen", name, n)
		}
	}
}

// P9.1: ErrFault of what an instruction does: it is not done, nor seen, nor does the memory change.
func TestFaultOfStep(t *testing.T) {
	for name, i := range map[string]api.Inst{
		"read behind the end":    {Op: api.OpLoad, D: api.RCX, M: at(api.RDI, room-7)},
		"read ahead":             {Op: api.OpLoad, D: api.RCX, M: at(api.RSI, -1)},
		"read of two regions":    {Op: api.OpLoad, D: api.RCX, M: at(api.RSI, 60)},
		"written behind the end": {Op: api.OpStore, S: api.RCX, M: at(api.RDI, room-7)},
		"written, read only":     {Op: api.OpStore, S: api.RCX, M: at(api.RSI, 8)},
		"written to 0":           {Op: api.OpStore, S: api.RCX, M: at(api.RCX, 0)},
		"the code is no region":  {Op: api.OpLoad, D: api.RCX, M: at(api.RBX, 0)},
	} {
		s, m := start()
		s.Regs[api.RBX] = api.CodeBase
		r, l := like(t, coded(push, i, ret), s, m, 100)
		if r.Err != api.ErrFault || r.Steps != 1 || r.State.PC != api.CodeBase+1 || len(l) != 2 || r.State.Regs[api.RCX] != 0 {
			t.Errorf("%s: %+v, %v", name, r, l)
		}
	}
	s, m := start()
	s.Regs[api.RSP] = low + 24
	if r, l := like(t, coded(push, push, push, push, ret), s, m, 100); r.Err != api.ErrFault || r.Steps != 3 || r.State.Regs[api.RSP] != low || len(l) != 6 {
		t.Error(r, l)
	}
	s.Regs[api.RSP] = api.StackTop - 7
	if r, l := like(t, coded(ret), s, m, 100); r != (api.Ran{State: s, Err: api.ErrFault}) || len(l) != 0 {
		t.Error(r, l)
	}
}

// P9.1: code is what was handed in, whatever stands in a memory of the same addresses.
func TestCodeIsNoMemory(t *testing.T) {
	s, _ := start()
	m, _ := memory.New([]api.Region{{Base: api.CodeBase, Bytes: make([]byte, 64), Write: true}})
	m.Store(api.CodeBase+32, api.Home)
	s.Regs[api.RSP], s.Regs[api.RBX] = api.CodeBase+32, api.CodeBase
	code := coded(not, api.Inst{Op: api.OpStore, S: api.RAX, M: at(api.RBX, 0)}, ret)
	if r, _ := like(t, code, s, m, 10); r.Err != api.OK || r.Steps != 3 {
		t.Error(r)
	}
	if v, _ := m.Load(api.CodeBase); v != top {
		t.Error(v)
	}
}

// P9.1: an instruction that stands in another one's bytes is another place's; both come again and again.
func TestOverlappingInstructions(t *testing.T) {
	number := int64(0)
	for k, b := range []byte(coded(not, jump(-10))) {
		number |= int64(b) << (8 * k)
	}
	code := coded(
		api.Inst{Op: api.OpMovImm, D: api.RCX, Imm: number}, // 0, 10 bytes, whose number begins at 2
		api.Inst{Op: api.OpSubImm, D: api.RBX, Imm: 1},      // 10, 7 bytes
		api.Inst{Op: api.OpJnz, Imm: -21},                   // 17, 6 bytes: to 2
		ret,                                                 // 23
	)
	s, m := start()
	s.Regs[api.RBX] = 4
	r, _ := like(t, code, s, m, 100)
	if r.Err != api.OK || r.Steps != 4*3+3*2+1 || r.State.Regs[api.RAX] != top || r.State.Regs[api.RCX] != uint64(number) {
		t.Error(r)
	}
}

// P9.1: a program by hand: the product of 1 to n, with n read from memory, and a return that goes on in the code
func TestProgram(t *testing.T) {
	code := coded(
		api.Inst{Op: api.OpMovImm, D: api.RAX, Imm: 1},                 // 0, 10 bytes
		api.Inst{Op: api.OpLoad, D: api.RCX, M: at(api.RDI, 16)},       // 10, 4 bytes
		api.Inst{Op: api.OpMov, D: api.RDX, S: api.RCX},                // 14, 3 bytes
		api.Inst{Op: api.OpMulx, D: api.R8, S: api.RAX, T: api.RAX},    // 17, 5 bytes
		api.Inst{Op: api.OpSubImm, D: api.RCX, Imm: 1},                 // 22, 7 bytes
		api.Inst{Op: api.OpJnz, Imm: -21},                              // 29, 6 bytes: to 14
		api.Inst{Op: api.OpMovImm, D: api.RBX, Imm: api.CodeBase + 51}, // 35, 10 bytes
		api.Inst{Op: api.OpStore, S: api.RAX, M: at(api.RDI, 24)},      // 45, 4 bytes
		api.Inst{Op: api.OpPush, S: api.RBX},                           // 49
		ret,                                                            // 50: to 51
		ret,                                                            // 51: home
	)
	for n := 1; n <= 20; n++ {
		s, m := start()
		m.Store(low+16, uint64(n))
		r, l := like(t, code, s, m, 1000)
		if r.Err != api.OK || r.Steps != 2+4*n+5 || r.State.Regs[api.RSP] != api.StackTop {
			t.Errorf("%d: %+v", n, r)
		}
		if want, v := new(big.Int).MulRange(1, int64(n)).Uint64(), r.State.Regs[api.RAX]; v != want {
			t.Errorf("%d: %d, not %d", n, v, want)
		}
		if v, _ := m.Load(low + 24); v != r.State.Regs[api.RAX] {
			t.Errorf("%d: %d", n, v)
		}
		end := []api.Event{
			{Kind: api.EventStep, Addr: api.CodeBase + 45}, {Kind: api.EventWrite, Addr: low + 24},
			{Kind: api.EventStep, Addr: api.CodeBase + 49}, {Kind: api.EventWrite, Addr: api.StackTop - 16},
			{Kind: api.EventStep, Addr: api.CodeBase + 50}, {Kind: api.EventRead, Addr: api.StackTop - 16}, {Kind: api.EventJump, Addr: api.CodeBase + 51},
			{Kind: api.EventStep, Addr: api.CodeBase + 51}, {Kind: api.EventRead, Addr: api.StackTop - 8}, {Kind: api.EventJump, Addr: api.Home},
		}
		if !slices.Equal(l[len(l)-len(end):], end) || len(l) != 3+5*n+1+len(end) {
			t.Errorf("%d: %v", n, l)
		}
	}
}

// P9.1: Seen goes on only while it is gone through: behind each event just the steps up to it are done.
func TestSeenGoesOn(t *testing.T) {
	inc := api.Inst{Op: api.OpAddImm, D: api.RAX, Imm: 1}
	put := api.Inst{Op: api.OpStore, S: api.RAX, M: at(api.RDI, 0)}
	code := coded(inc, put, inc, put, inc, put, ret)
	s, m := start()
	all := Seen(code, s, m, 100)
	if v, _ := m.Load(low); v != 0 {
		t.Error("done ahead of being gone through:", v)
	}
	want := []uint64{0, 1, 1, 1, 2, 2, 2, 3, 3, 3, 3, 3}
	n := 0
	for range all {
		if v, _ := m.Load(low); v != want[n] {
			t.Errorf("behind event %d: %d, not %d", n, v, want[n])
		}
		n++
	}
	if n != len(want) {
		t.Error(n)
	}
	for stop := range want {
		s, m := start()
		var got []api.Event
		for e := range Seen(code, s, m, 100) {
			if got = append(got, e); len(got) > stop {
				break
			}
		}
		_, other := start()
		if _, l := Run(code, s, other, 100); !slices.Equal(got, l[:stop+1]) {
			t.Error(stop, got)
		}
		if v, _ := m.Load(low); v != want[stop] {
			t.Errorf("broken off behind event %d: %d, not %d", stop, v, want[stop])
		}
	}
}

// P9.1: gone through again, it is a run from the same state on, of the memory as it is by then.
func TestSeenAgain(t *testing.T) {
	turn := []api.Inst{{Op: api.OpLoad, D: api.RAX, M: at(api.RDI, 0)}, {Op: api.OpAddImm, D: api.RAX, Imm: 1}, {Op: api.OpStore, S: api.RAX, M: at(api.RDI, 0)}, ret}
	s, m := start()
	all := Seen(coded(turn...), s, m, 100)
	first := slices.Collect(all)
	if again := slices.Collect(all); !slices.Equal(again, first) || len(first) != 8 {
		t.Error(first, again)
	}
	if v, _ := m.Load(low); v != 2 {
		t.Error(v)
	}
}

// P9.1: no two answers share memory.
func TestAnswersOnTheirOwn(t *testing.T) {
	s, m := start()
	code := coded(not, not, ret)
	_, a := Run(code, s, m, 10)
	_, b := Run(code, s, m, 10)
	want := slices.Clone(a)
	clear(b[:cap(b)])
	if !slices.Equal(a, want) {
		t.Error(a)
	}
}

func chance(n int64) *rand.Rand { return rand.New(rand.NewSource(n)) }

// P9.1: programs by chance, and bytes by chance, of little fuel and of much
func TestByChance(t *testing.T) {
	c, ends := chance(9), map[api.Errno]int{}
	for range 20000 {
		code := chanced(c)
		switch c.Intn(8) {
		case 0:
			code = code[:c.Intn(len(code)+1)]
		case 1, 2, 3, 4:
			code += coded(ret)
		}
		s, m := start()
		s.CF, s.OF, s.ZF, s.Regs[api.RCX] = c.Intn(2) == 0, c.Intn(2) == 0, c.Intn(2) == 0, c.Uint64()
		if c.Intn(2) == 0 {
			s.Regs[api.RSP] -= uint64(8 * c.Intn(10))
		}
		r, _ := like(t, code, s, m, []int{0, 1, 2, 5, 50, 500}[c.Intn(6)])
		ends[r.Err]++
	}
	if len(ends) != 3 || ends[api.OK] < 100 || ends[api.ErrFull] < 100 || ends[api.ErrFault] < 100 {
		t.Error("chance makes too little of one end:", ends)
	}
	for range 20000 {
		b := make([]byte, c.Intn(20))
		c.Read(b)
		s, m := start()
		like(t, string(b), s, m, 20)
	}
}

// P9.2: cut in two at each step, and with more fuel: the run is the same.
func TestCutInTwo(t *testing.T) {
	c := chance(92)
	for range 1500 {
		code := chanced(c)
		s, m := start()
		ahead := m.Clone()
		whole, l := Run(code, s, m, 40)
		for n := 0; n <= whole.Steps+2 && n <= 40; n++ {
			cut := ahead.Clone()
			first, a := Run(code, s, cut, n)
			if !slices.Equal(a, l[:len(a)]) || first.Steps != min(n, whole.Steps) {
				t.Fatalf("% x: with %d steps of fuel another way: %+v, %v; %v", code, n, first, a, l)
			}
			second, b := Run(code, first.State, cut, 40-n)
			if second.State != whole.State || second.Err != whole.Err || first.Steps+second.Steps != whole.Steps || !slices.Equal(append(a, b...), l) || !same(cut, m) {
				t.Fatalf("% x cut at %d: %+v, %+v, %v; %+v, %v", code, n, first, second, b, whole, l)
			}
		}
	}
}
