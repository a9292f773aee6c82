package secrecy

import (
	"math"
	"reflect"
	"slices"
	"testing"

	"keysmith/api"
	"keysmith/limb"
)

// Operations by hand: op has nothing but its kind.

func op(kind int) api.LimbOp {
	return api.LimbOp{Kind: kind, D: -1, E: -1, A: -1, B: -1, C: -1}
}

func constant(d int, imm uint64) api.LimbOp {
	return api.LimbOp{Kind: api.LimbConst, D: d, E: -1, A: -1, B: -1, C: -1, Imm: imm}
}

func move(d, a int) api.LimbOp {
	return api.LimbOp{Kind: api.LimbMove, D: d, E: -1, A: a, B: -1, C: -1}
}

func load(d, a, buf int, imm uint64) api.LimbOp {
	return api.LimbOp{Kind: api.LimbLoad, D: d, E: -1, A: a, B: -1, C: -1, Buf: buf, Imm: imm}
}

func store(a, b, buf int, imm uint64) api.LimbOp {
	return api.LimbOp{Kind: api.LimbStore, D: -1, E: -1, A: a, B: b, C: -1, Buf: buf, Imm: imm}
}

func loop(d int, times uint64) api.LimbOp {
	return api.LimbOp{Kind: api.LimbLoop, D: d, E: -1, A: -1, B: -1, C: -1, Imm: times}
}

var end = op(api.LimbEnd)

// row puts operations behind one another.
func row(l ...api.LimbOp) []api.LimbOp { return l }

// The buffers of program: one of each kind, secret or not.
const (
	secretIn = iota
	publicIn
	secretOut
	publicOut
	secretTmp
	publicTmp
)

// program answers a program over 9 registers and a buffer of each kind, secret and public, of 3 limbs.
func program(l ...api.LimbOp) api.LimbProg {
	p := api.LimbProg{Regs: 9, Ops: l}
	for kind := api.BufIn; kind <= api.BufTmp; kind++ {
		p.Bufs = append(p.Bufs, api.Buf{Size: 3, Kind: kind, Secret: true}, api.Buf{Size: 3, Kind: kind})
	}
	return p
}

// given answers rows for program.
func given() [][]uint64 {
	return [][]uint64{{11, 12, 13}, {0, 1, 2}, {31, 32, 33}, {41, 42, 43}, nil, {}}
}

// looks holds what Secret and Check tell of a program: the secret registers, the operation, the error.
func looks(t *testing.T, p api.LimbProg, secret []int, at int, e api.Errno) {
	t.Helper()
	if _, e := limb.Check(p); e != api.OK {
		t.Fatalf("%+v may not be: %d", p, e)
	}
	want := make([]bool, p.Regs)
	for _, r := range secret {
		want[r] = true
	}
	before := limb.Copy(p)
	if l := Secret(p); !slices.Equal(l, want) {
		t.Fatalf("Secret of %+v: %v, not %v", p, l, want)
	}
	if n, err := Check(p); n != at || err != e {
		t.Fatalf("Check of %+v: %d, %d, not %d, %d", p, n, err, at, e)
	}
	if !limb.Same(p, before) {
		t.Fatalf("%+v is changed, it was %+v", p, before)
	}
}

// keeps holds that a program keeps its secrets, with such secret registers.
func keeps(t *testing.T, p api.LimbProg, secret ...int) {
	t.Helper()
	looks(t, p, secret, len(p.Ops), api.OK)
}

// tells holds that a program's operation tells something secret.
func tells(t *testing.T, p api.LimbProg, at int, secret ...int) {
	t.Helper()
	looks(t, p, secret, at, api.ErrSecret)
}

// mayNot holds that a program may not be.
func mayNot(t *testing.T, p api.LimbProg, rows [][]uint64) {
	t.Helper()
	at, e := limb.Check(p)
	if e == api.OK {
		t.Fatalf("%+v may be", p)
	}
	if n, err := Check(p); n != at || err != e {
		t.Fatalf("Check of %+v: %d, %d, not %d, %d", p, n, err, at, e)
	}
	if l := Secret(p); len(l) != 0 {
		t.Fatalf("Secret of %+v: %v", p, l)
	}
	for _, r := range [][][]uint64{nil, rows} {
		if Public(p, r, r) {
			t.Fatalf("Public of %+v, %v", p, r)
		}
	}
}

// The document's example
func TestExamples(t *testing.T) {
	tells(t, program(load(0, -1, secretIn, 0), load(1, 0, secretIn, 0)), 1, 0, 1)
	tells(t, program(load(0, -1, secretIn, 0), load(1, 0, publicIn, 0)), 1, 0, 1)
}

// P13.1: a program without anything, and one without operations
func TestNothing(t *testing.T) {
	for _, p := range []api.LimbProg{{}, {Bufs: []api.Buf{}, Ops: []api.LimbOp{}}, {Regs: 64}, {Regs: 1}} {
		keeps(t, p)
		if !Public(p, nil, nil) || !Public(p, nil, [][]uint64{}) || Public(p, [][]uint64{nil}, nil) || Public(p, nil, [][]uint64{nil}) {
			t.Errorf("Public of %+v", p)
		}
	}
	keeps(t, program())
}

// P13.1: a load of each buffer, and what is made of it by a move
func TestLoads(t *testing.T) {
	for buf, b := range program().Bufs {
		p := program(load(0, -1, buf, 1), move(1, 0), constant(2, 7))
		if b.Secret {
			keeps(t, p, 0, 1)
		} else {
			keeps(t, p)
		}
	}
}

// filled answers an operation of a kind with registers of program (D 4, E 5; A 1, B 2, C 3), a public buffer, a number that may be.
func filled(kind int) api.LimbOp {
	o := op(kind)
	for _, letter := range shapes[kind] {
		switch letter {
		case 'D':
			o.D = 4
		case 'E':
			o.E = 5
		case 'A', 'a':
			o.A = 1
		case 'B':
			o.B = 2
		case 'C':
			o.C = 3
		case 'P':
			o.Buf = publicTmp
		case 's':
			o.Imm = 9
		case 't':
			o.Imm = 2
		}
	}
	return o
}

// P13.1: of each kind: whatever it takes that is secret, all that it makes is secret; nothing else is
func TestEachKind(t *testing.T) {
	for kind := range shapes {
		if kind == api.LimbEnd || kind == api.LimbLoop {
			continue
		}
		o := filled(kind)
		keeps(t, program(constant(1, 0), constant(2, 1), constant(3, 1), o))
		for _, secret := range []int{1, 2, 3} {
			ahead := row(constant(1, 0), constant(2, 1), constant(3, 1))
			ahead[secret-1] = load(secret, -1, secretIn, 0)
			want := []int{secret}
			if slices.Contains(registers(o, "AaBC"), secret) {
				want = append(want, registers(o, "DE")...)
			}
			touches := kind == api.LimbLoad || kind == api.LimbStore
			if touches && secret == 1 || kind == api.LimbStore && secret == 2 {
				tells(t, program(append(ahead, o)...), 3, want...)
			} else {
				keeps(t, program(append(ahead, o)...), want...)
			}
		}
	}
}

// P13.1: register 0 and the last of them, above others' bits
func TestEachRegister(t *testing.T) {
	for r := range api.MaxRegs {
		other := (r + 1) % api.MaxRegs
		p := program(load(r, -1, secretIn, 0), constant(other, 1), store(other, r, secretOut, 0), store(-1, other, publicOut, 0))
		p.Regs = 64
		keeps(t, p, r)
		p.Ops[3].B = r
		tells(t, p, 3, r)
	}
}

// P13.1: what is secret somewhere is secret everywhere: ahead of that, and behind what is made of nothing secret
func TestSecretEverywhere(t *testing.T) {
	keeps(t, program(constant(0, 1), move(1, 0), load(0, -1, secretIn, 0)), 0, 1)
	keeps(t, program(load(0, -1, secretIn, 0), constant(0, 1), move(1, 0)), 0, 1)
	tells(t, program(constant(0, 1), store(-1, 0, publicOut, 0), load(0, -1, secretIn, 0)), 1, 0)
	tells(t, program(constant(0, 1), constant(2, 1), load(1, 0, publicIn, 0), move(0, 2), load(2, -1, secretTmp, 0)), 2, 0, 1, 2)
	// What would be reckoned is not looked at.
	xor := api.LimbOp{Kind: api.LimbXor, D: 1, E: -1, A: 0, B: 0, C: -1}
	tells(t, program(load(0, -1, secretIn, 0), xor, store(-1, 1, publicOut, 0)), 2, 0, 1)
	sel := api.LimbOp{Kind: api.LimbSel, D: 3, E: -1, A: 1, B: 1, C: 0}
	tells(t, program(load(0, -1, secretIn, 0), constant(1, 5), sel, store(-1, 3, publicOut, 0)), 3, 0, 3)
}

// chain answers moves from 0 up to a register, the last one first, so that each round over them finds one more.
func chain(last int) []api.LimbOp {
	var l []api.LimbOp
	for r := range last {
		l = append(l, constant(r+1, 0))
	}
	for r := last; r > 0; r-- {
		l = append(l, move(r, r-1))
	}
	return l
}

// P13.1: what is secret grows till nothing changes, however many rounds that takes
func TestGrows(t *testing.T) {
	for last := range 64 {
		var all []int
		for r := range last + 1 {
			all = append(all, r)
		}
		p := api.LimbProg{Regs: last + 1, Bufs: program().Bufs}
		p.Ops = slices.Concat(row(load(0, -1, secretIn, 0)), chain(last), row(store(-1, last, publicOut, 0)))
		tells(t, p, len(p.Ops)-1, all...)
		p.Ops[0].Buf = publicIn
		keeps(t, p)
	}
	// In a loop, what is made at its end is taken at its beginning.
	keeps(t, program(constant(1, 0), constant(2, 0), loop(0, 3), move(2, 1), load(1, -1, secretIn, 0), end), 1, 2)
	tells(t, program(constant(1, 0), loop(0, 3), store(-1, 1, publicOut, 0), load(1, 0, secretIn, 0), end), 2, 1)
}

// P13.1: each rule, and what is not forbidden
func TestCheckOfRules(t *testing.T) {
	ahead := row(load(0, -1, secretIn, 0), constant(1, 2))
	for buf, b := range program().Bufs {
		with := func(l ...api.LimbOp) api.LimbProg { return program(slices.Concat(ahead, l)...) }
		tells(t, with(load(2, 0, buf, 0)), 2, 0, 2)
		if b.Secret {
			keeps(t, with(load(2, 1, buf, 0)), 0, 2)
		} else {
			keeps(t, with(load(2, 1, buf, 0)), 0)
		}
		if b.Kind == api.BufIn {
			continue
		}
		tells(t, with(store(0, 1, buf, 0)), 2, 0)
		tells(t, with(store(0, 0, buf, 0)), 2, 0)
		keeps(t, with(store(1, 1, buf, 0)), 0)
		keeps(t, with(store(-1, 1, buf, 0)), 0)
		for _, o := range row(store(-1, 0, buf, 0), store(1, 0, buf, 0)) {
			if b.Secret {
				keeps(t, with(o), 0)
			} else {
				tells(t, with(o), 2, 0)
			}
		}
	}
}

// P13.1: loops: a loop's register is of nothing secret, unless something else makes it so
func TestCheckOfLoops(t *testing.T) {
	body := row(load(1, 0, secretIn, 0), store(0, 1, secretOut, 0), store(0, 0, publicOut, 0))
	keeps(t, program(slices.Concat(row(loop(0, 3)), body, row(end))...), 1)
	tells(t, program(loop(0, 2), end, load(0, -1, secretIn, 0)), 0, 0)
	tells(t, program(constant(1, 1), loop(0, 2), end, loop(2, 1), end, load(1, -1, secretIn, 0), move(2, 1)), 3, 1, 2)
	tells(t, program(loop(1, 2), loop(0, 2), end, load(0, -1, secretIn, 0), end), 1, 0)
	keeps(t, program(load(1, -1, secretIn, 0), loop(0, 2), store(-1, 1, secretTmp, 0), end, constant(0, 1), loop(2, 1), end), 1)
}

// P13.1: of several operations that tell something the first counts, whichever rule it is
func TestCheckFirst(t *testing.T) {
	l := row(load(0, -1, secretIn, 0), constant(1, 0), constant(2, 0))
	wrong := row(store(-1, 0, publicOut, 0), load(3, 0, publicIn, 0), store(0, 1, secretOut, 0), loop(4, 1))
	behind := row(move(4, 0))
	for first := range wrong {
		rest := slices.Concat(wrong[first:], wrong[:first])
		ops := slices.Clone(l)
		for _, o := range rest {
			ops = append(ops, constant(2, 1), o)
			if o.Kind == api.LimbLoop {
				ops = append(ops, end)
			}
		}
		tells(t, program(append(ops, behind...)...), 4, 0, 3, 4)
	}
}

// P13.1: limb.Check's errors come first, though something secret is told ahead of them
func TestCheckOfLimb(t *testing.T) {
	tell := row(load(0, -1, secretIn, 0), store(-1, 0, publicOut, 0), load(1, 0, publicIn, 0))
	tells(t, program(tell...), 1, 0, 1)
	for _, o := range row(
		api.LimbOp{}, op(0), op(18), op(-1), op(math.MinInt), op(math.MaxInt), end, move(2, 3), move(2, -2), move(9, 0), move(math.MaxInt, 0), move(0, math.MinInt),
		load(0, -1, 6, 0), load(0, -1, -1, 0), load(0, -1, math.MaxInt, 0), load(0, -1, 0, 3), load(0, 2, 0, 0),
		store(-1, 0, secretIn, 0), store(-1, -1, publicOut, 0), store(-1, 0, math.MinInt, 0), store(-1, 64, secretOut, 0),
		loop(2, 0), loop(2, 1<<20+1), loop(0, 1), loop(-1, 1), loop(2, 1),
	) {
		mayNot(t, program(append(slices.Clone(tell), o)...), given())
		mayNot(t, program(append(row(o), tell...)...), given())
	}
	for _, change := range []func(p *api.LimbProg){
		func(p *api.LimbProg) { p.Regs = 65 },
		func(p *api.LimbProg) { p.Regs = -1 },
		func(p *api.LimbProg) { p.Regs = math.MaxInt },
		func(p *api.LimbProg) { p.Regs = math.MinInt },
		func(p *api.LimbProg) { p.Regs = 1 },
		func(p *api.LimbProg) { p.Bufs = nil },
		func(p *api.LimbProg) { p.Bufs[5].Kind = 0 },
		func(p *api.LimbProg) { p.Bufs[5].Kind = 4 },
		func(p *api.LimbProg) { p.Bufs[5].Size = 0 },
		func(p *api.LimbProg) { p.Bufs[5].Size = -3 },
		func(p *api.LimbProg) { p.Bufs[5].Size = 1<<16 + 1 },
		func(p *api.LimbProg) { p.Bufs[5].Size = math.MaxInt },
		func(p *api.LimbProg) { p.Bufs = slices.Repeat(p.Bufs, 6)[:33] },
		func(p *api.LimbProg) { p.Ops = slices.Repeat(p.Ops, 1<<15) },
	} {
		p := program(slices.Clone(tell)...)
		change(&p)
		mayNot(t, p, given())
	}
}

// P13.1: as many registers, buffers, limbs, operations and loops as may be
func TestLimits(t *testing.T) {
	p := api.LimbProg{Regs: 64}
	for k := range 32 {
		p.Bufs = append(p.Bufs, api.Buf{Size: 1 << 16, Kind: 1 + k%3, Secret: k == 30})
	}
	p.Ops = row(load(0, -1, 30, 1<<16-1))
	for k := range 8 {
		p.Ops = append(p.Ops, loop(56+k, 1<<20))
	}
	p.Ops = append(p.Ops, chain(55)...)
	for len(p.Ops) < 1<<16-9 {
		p.Ops = append(p.Ops, move(1, 0))
	}
	p.Ops = append(p.Ops, store(63, 55, 31, 0))
	p.Ops = append(p.Ops, slices.Repeat(row(end), 8)...)
	var all []int
	for r := range 56 {
		all = append(all, r)
	}
	tells(t, p, 1<<16-9, all...)
	p.Bufs[31].Secret = true
	keeps(t, p, all...)
	rows := make([][]uint64, 32)
	for k, b := range p.Bufs {
		if b.Kind != api.BufTmp {
			rows[k] = make([]uint64, 1<<16)
		}
	}
	other := copied(rows)
	if !Public(p, rows, other) {
		t.Error("not Public")
	}
	other[30][1<<16-1]++
	if !Public(p, rows, other) {
		t.Error("a secret limb counts")
	}
	other[28][1<<16-1]++
	if Public(p, rows, other) {
		t.Error("a public limb does not count")
	}
}

// P13.1: Public: rows agree on each public limb, secret ones may be anything
func TestPublic(t *testing.T) {
	p := program(load(0, -1, secretIn, 0), store(-1, 0, secretOut, 0))
	for k, b := range p.Bufs {
		for i := range given()[k] {
			for _, v := range []uint64{0, 99, 1 << 63, given()[k][i] ^ 1, given()[k][i] ^ 1<<63} {
				a, c := given(), given()
				c[k][i] = v
				same := v == a[k][i]
				if got := Public(p, a, c); got != (same || b.Secret) {
					t.Errorf("limb %d of buffer %d is %d: %v", i, k, v, got)
				}
				if got := Public(p, c, a); got != (same || b.Secret) {
					t.Errorf("limb %d of buffer %d was %d: %v", i, k, v, got)
				}
				if !Public(p, c, c) || !reflect.DeepEqual(a, given()) || c[k][i] != v {
					t.Errorf("limb %d of buffer %d with %d", i, k, v)
				}
			}
		}
	}
}

// P13.1: Public: rows that may not be handed to Run, on one side, on the other, on both
func TestPublicOfWrongRows(t *testing.T) {
	p := program(load(0, -1, secretIn, 0), store(-1, 0, secretOut, 0))
	wrong := [][][]uint64{nil, {}, given()[:5], append(given(), nil), append(given(), []uint64{1}), {nil, nil, nil, nil, nil, nil}}
	for k, b := range p.Bufs {
		for _, r := range [][]uint64{nil, {}, {1}, {1, 2}, {1, 2, 3, 4}, {1, 2, 3}, {0, 0, 0}, {0}} {
			if fits := len(r) == 3 && b.Kind != api.BufTmp || len(r) == 0 && b.Kind == api.BufTmp; !fits {
				rows := given()
				rows[k] = r
				wrong = append(wrong, rows)
			}
		}
	}
	for _, rows := range wrong {
		if _, _, e := limb.Run(p, rows); e != api.ErrArg {
			t.Fatalf("%v may be handed to Run", rows)
		}
		if Public(p, rows, rows) || Public(p, rows, given()) || Public(p, given(), rows) {
			t.Errorf("%v is Public", rows)
		}
	}
}

// P13.1: Public is of programs that tell something, of those whose runs have faults, and of those whose runs are too long
func TestPublicOfAllPrograms(t *testing.T) {
	for _, p := range []api.LimbProg{
		program(load(0, -1, secretIn, 0), store(-1, 0, publicOut, 0)),
		program(constant(0, 9), load(0, 0, publicIn, 0)),
		program(loop(0, 1<<20), loop(1, 1<<20), end, end),
	} {
		a, b := given(), given()
		b[secretIn][0]++
		if !Public(p, a, b) {
			t.Errorf("not Public of %+v", p)
		}
		b[publicIn][0]++
		if Public(p, a, b) {
			t.Errorf("Public of %+v", p)
		}
	}
}

// Rule 3: an answer is new memory; what was handed in is not changed, its spare room neither
func TestMemory(t *testing.T) {
	p := program(load(0, -1, secretIn, 0), store(-1, 0, secretOut, 0), constant(7, 7))
	p.Ops, p.Bufs = p.Ops[:2], append(p.Bufs, api.Buf{Size: 7, Kind: 7})[:6]
	l := Secret(p)
	for k := range l {
		l[k] = !l[k]
	}
	l = append(l, true)
	keeps(t, p, 0)
	rows := given()
	rows[publicIn] = append(rows[publicIn], 77)[:3]
	if !Public(p, rows, given()) || rows[publicIn][:4][3] != 77 {
		t.Error("Public", rows)
	}
	if p.Ops[:3][2] != constant(7, 7) || p.Bufs[:7][6] != (api.Buf{Size: 7, Kind: 7}) {
		t.Error("spare room is changed")
	}
}

// P13.1 against the model, of programs by chance
func TestByChance(t *testing.T) {
	c := chance(13)
	kept, told := 0, 0
	for k := range 2000 {
		p := chanced(c, k%3 == 0)
		var secret []int
		for r, is := range modelSecrets(p) {
			if is {
				secret = append(secret, r)
			}
		}
		at, e := modelCheck(p)
		looks(t, p, secret, at, e)
		if e == api.OK && len(secret) > 0 {
			kept++
		} else if e != api.OK {
			told++
		}
	}
	if kept < 300 || told < 300 {
		t.Error(kept, told)
	}
}

// changed changes something of a program.
func changed(p api.LimbProg, by func(n int) int) api.LimbProg {
	p = limb.Copy(p)
	if by(9) == 0 {
		p.Regs -= by(3)
		p.Bufs = p.Bufs[:by(len(p.Bufs)+1)]
	}
	if len(p.Ops) == 0 {
		return p
	}
	o, small := &p.Ops[by(len(p.Ops))], by(p.Regs+5)-3
	for _, part := range [][]*int{{&o.Kind}, {&o.D}, {&o.E}, {&o.A}, {&o.B}, {&o.C}, {&o.Buf}, {}}[by(8)] {
		*part = small
	}
	if by(4) == 0 {
		*o = p.Ops[by(len(p.Ops))]
	}
	return p
}

// P13.1: of programs by chance with something changed: limb.Check's error, or what the model tells
func TestOfChanged(t *testing.T) {
	c := chance(14)
	wrong := 0
	for range 2000 {
		p := changed(chanced(c, false), c.Intn)
		if _, e := limb.Check(p); e != api.OK {
			mayNot(t, p, chancedRows(c, p.Bufs))
			wrong++
			continue
		}
		if l := Secret(p); !slices.Equal(l, modelSecrets(p)) {
			t.Fatalf("Secret of %+v: %v", p, l)
		}
		n, e := Check(p)
		if at, want := modelCheck(p); n != at || e != want {
			t.Fatalf("Check of %+v: %d, %d, not %d, %d", p, n, e, at, want)
		}
	}
	if wrong < 300 {
		t.Error(wrong)
	}
}
