package limb

import (
	"math"
	"math/big"
	"math/rand"
	"reflect"
	"slices"
	"strings"
	"testing"

	"keysmith/api"
)

const top = 1<<64 - 1

func chance(n int64) *rand.Rand { return rand.New(rand.NewSource(n)) }

// Operations by hand: op has nothing but its kind.

func op(kind int) api.LimbOp {
	return api.LimbOp{Kind: kind, D: -1, E: -1, A: -1, B: -1, C: -1}
}

func constant(d int, imm uint64) api.LimbOp {
	return api.LimbOp{Kind: api.LimbConst, D: d, E: -1, A: -1, B: -1, C: -1, Imm: imm}
}

func move(d, a int) api.LimbOp {
	return api.LimbOp{Kind: api.LimbMove, D: d, E: -1, A: a, B: -1, C: -1}
}

func add(d, a, b int) api.LimbOp {
	return api.LimbOp{Kind: api.LimbAdd, D: d, E: -1, A: a, B: b, C: -1}
}

func mul(d, e, a, b int) api.LimbOp {
	return api.LimbOp{Kind: api.LimbMul, D: d, E: e, A: a, B: b, C: -1}
}

func adc(d, e, a, b, c int) api.LimbOp {
	return api.LimbOp{Kind: api.LimbAdc, D: d, E: e, A: a, B: b, C: c}
}

func load(d, a, buf int, imm uint64) api.LimbOp {
	return api.LimbOp{Kind: api.LimbLoad, D: d, E: -1, A: a, B: -1, C: -1, Buf: buf, Imm: imm}
}

func store(a, b, buf int, imm uint64) api.LimbOp {
	return api.LimbOp{Kind: api.LimbStore, D: -1, E: -1, A: a, B: b, C: -1, Buf: buf, Imm: imm}
}

func loop(d int, times uint64) api.LimbOp {
	return api.LimbOp{Kind: api.LimbLoop, D: d, E: -1, A: -1, B: -1, C: -1, Imm: times}
}

var end = op(api.LimbEnd)

// row puts operations behind one another.
func row(l ...api.LimbOp) []api.LimbOp { return l }

// seen answers events, each by its operation and its limb's place.
func seen(l ...[2]int) []api.LimbEvent {
	var events []api.LimbEvent
	for _, x := range l {
		events = append(events, api.LimbEvent{Op: x[0], At: x[1]})
	}
	return events
}

// program answers a program with a buffer of each kind, of 3 limbs.
func program(l ...api.LimbOp) api.LimbProg {
	return api.LimbProg{Regs: 8, Bufs: []api.Buf{{Size: 3, Kind: api.BufIn, Secret: true}, {Size: 3, Kind: api.BufOut}, {Size: 3, Kind: api.BufTmp}}, Ops: l}
}

func given() [][]uint64 { return [][]uint64{{11, 12, 13}, {21, 22, 23}, nil} }

// mayNot holds that a program may not be, in all that is told of it.
func mayNot(t *testing.T, p api.LimbProg, at int, want api.Errno) {
	t.Helper()
	before := Copy(p)
	if n, e := Check(p); n != at || e != want {
		t.Fatalf("Check of %+v: %d, %d, not %d, %d", p, n, e, at, want)
	}
	if n, l := Steps(p), Ends(p); n != 0 || len(l) != 0 {
		t.Fatalf("%+v: %d steps, ends %v", p, n, l)
	}
	for _, rows := range [][][]uint64{given(), nil} {
		if out, l, e := Run(p, rows); out != nil || l != nil || e != want {
			t.Fatalf("Run of %+v: %v, %v, %d, not %d", p, out, l, e, want)
		}
	}
	if !reflect.DeepEqual(p, before) {
		t.Fatalf("%+v is changed, it was %+v", p, before)
	}
}

// may holds that a program may be, with so many events and such ends.
func may(t *testing.T, p api.LimbProg) {
	t.Helper()
	before := Copy(p)
	if n, e := Check(p); n != len(p.Ops) || e != api.OK {
		t.Fatalf("Check of %+v: %d, %d", p, n, e)
	}
	want := min(modelSteps(p.Ops).Uint64(), 1<<50)
	if steps := modelSteps(p.Ops); !steps.IsUint64() {
		want = 1 << 50
	}
	if n := Steps(p); n != int(want) {
		t.Fatalf("%+v: %d steps, not %d", p, n, want)
	}
	if l := Ends(p); !slices.Equal(l, modelEnds(p.Ops)) {
		t.Fatalf("%+v: ends %v, not %v", p, l, modelEnds(p.Ops))
	}
	if !reflect.DeepEqual(p, before) {
		t.Fatalf("%+v is changed, it was %+v", p, before)
	}
}

// runs holds a run against the model's, and answers what came of it.
func runs(t *testing.T, p api.LimbProg, bufs [][]uint64) ([][]uint64, []api.LimbEvent, api.Errno) {
	t.Helper()
	may(t, p)
	before := copied(bufs)
	out, l, e := Run(p, bufs)
	wantOut, wantL, wantE := modelRun(p, bufs)
	if !slices.EqualFunc(out, wantOut, slices.Equal) || !slices.Equal(l, wantL) || e != wantE || e != api.OK && out != nil {
		t.Fatalf("Run of %+v with %v: %v, %v, %d, not %v, %v, %d", p, bufs, out, l, e, wantOut, wantL, wantE)
	}
	if !slices.EqualFunc(bufs, before, slices.Equal) {
		t.Fatalf("Run of %+v changes the rows to %v, they were %v", p, bufs, before)
	}
	return out, l, e
}

func copied(rows [][]uint64) [][]uint64 {
	var l [][]uint64
	for _, r := range rows {
		l = append(l, slices.Clone(r))
	}
	return l
}

// The document's example, and the README's
func TestExamples(t *testing.T) {
	p := api.LimbProg{Regs: 2, Bufs: []api.Buf{{Size: 2, Kind: api.BufOut}}, Ops: row(loop(0, 2), store(0, 0, 0, 0), end)}
	out, l, e := runs(t, p, [][]uint64{{7, 7}})
	want := seen([2]int{0, -1}, [2]int{1, 0}, [2]int{0, -1}, [2]int{1, 1})
	if !reflect.DeepEqual(out, [][]uint64{{0, 1}}) || !slices.Equal(l, want) || e != api.OK {
		t.Error(out, l, e)
	}
	if n := Steps(p); n != 4 {
		t.Error(n)
	}
	if l := Ends(p); !slices.Equal(l, []int{2, -1, 0}) {
		t.Error(l)
	}
	c := Copy(p)
	c.Ops[1].B = 1
	if at, e := Check(c); at != 1 || e != api.ErrNone || Same(p, c) {
		t.Error(at, e)
	}
}

// P12.1, P12.2: a program without anything
func TestNothing(t *testing.T) {
	for _, p := range []api.LimbProg{{}, {Bufs: []api.Buf{}, Ops: []api.LimbOp{}}, {Regs: 64}} {
		out, l, e := runs(t, p, nil)
		if len(out) != 0 || len(l) != 0 || e != api.OK || Steps(p) != 0 || len(Ends(p)) != 0 {
			t.Error(out, l, e)
		}
	}
	if _, _, e := Run(api.LimbProg{}, [][]uint64{}); e != api.OK {
		t.Error(e)
	}
	if _, _, e := Run(api.LimbProg{}, [][]uint64{nil}); e != api.ErrArg {
		t.Error(e)
	}
}

// P12.1: the limits of the whole, and what is beyond them, ahead of all else
func TestCheckOfTheWhole(t *testing.T) {
	b := api.Buf{Size: 1, Kind: api.BufIn}
	bufs := func(n int, l ...api.Buf) []api.Buf { return append(slices.Repeat([]api.Buf{b}, n), l...) }
	ops := func(n int) []api.LimbOp { return slices.Repeat(row(constant(0, 5)), n) }
	wrong := row(op(99))
	for name, p := range map[string]api.LimbProg{
		"all registers":        {Regs: 64, Ops: row(constant(63, 5))},
		"all buffers":          {Bufs: bufs(32)},
		"all operations":       {Regs: 1, Ops: ops(1 << 16)},
		"the longest buffers":  {Bufs: []api.Buf{{Size: 1 << 16, Kind: api.BufIn}, {Size: 1 << 16, Kind: api.BufOut, Secret: true}, {Size: 1 << 16, Kind: api.BufTmp}}},
		"the shortest buffers": {Bufs: []api.Buf{{Size: 1, Kind: api.BufIn, Secret: true}, {Size: 1, Kind: api.BufOut}, {Size: 1, Kind: api.BufTmp, Secret: true}}},
	} {
		if at, e := Check(p); at != len(p.Ops) || e != api.OK {
			t.Errorf("%s: %d, %d", name, at, e)
		}
	}
	for name, c := range map[string]struct {
		p api.LimbProg
		e api.Errno
	}{
		"too many registers":           {api.LimbProg{Regs: 65}, api.ErrLong},
		"far too many registers":       {api.LimbProg{Regs: math.MaxInt}, api.ErrLong},
		"too many buffers":             {api.LimbProg{Bufs: bufs(33)}, api.ErrLong},
		"too many operations":          {api.LimbProg{Regs: 1, Ops: ops(1<<16 + 1)}, api.ErrLong},
		"too long a buffer":            {api.LimbProg{Bufs: bufs(1, api.Buf{Size: 1<<16 + 1, Kind: api.BufTmp})}, api.ErrLong},
		"far too long a buffer":        {api.LimbProg{Bufs: bufs(1, api.Buf{Size: math.MaxInt, Kind: api.BufTmp})}, api.ErrLong},
		"no registers, too many ops":   {api.LimbProg{Regs: -1, Ops: ops(1<<16 + 1)}, api.ErrLong},
		"no registers, too many bufs":  {api.LimbProg{Regs: -1, Bufs: bufs(33)}, api.ErrLong},
		"no registers, too long":       {api.LimbProg{Regs: -1, Bufs: bufs(1, api.Buf{Size: 1<<16 + 1, Kind: 1})}, api.ErrLong},
		"no limbs, too long":           {api.LimbProg{Bufs: bufs(0, api.Buf{Kind: 1}, api.Buf{Size: 1<<16 + 1, Kind: 1})}, api.ErrLong},
		"of no kind, too long":         {api.LimbProg{Bufs: bufs(0, api.Buf{Size: 1<<16 + 1})}, api.ErrLong},
		"of no kind, too many":         {api.LimbProg{Bufs: bufs(32, api.Buf{Size: 1})}, api.ErrLong},
		"too many regs, wrong op":      {api.LimbProg{Regs: 65, Ops: wrong}, api.ErrLong},
		"registers below 0":            {api.LimbProg{Regs: -1}, api.ErrArg},
		"registers far below 0":        {api.LimbProg{Regs: math.MinInt}, api.ErrArg},
		"a buffer without limbs":       {api.LimbProg{Bufs: bufs(2, api.Buf{Kind: api.BufOut})}, api.ErrArg},
		"a buffer of less than none":   {api.LimbProg{Bufs: bufs(2, api.Buf{Size: -1, Kind: api.BufOut})}, api.ErrArg},
		"a buffer of far less":         {api.LimbProg{Bufs: bufs(2, api.Buf{Size: math.MinInt, Kind: api.BufOut})}, api.ErrArg},
		"a buffer of kind 0":           {api.LimbProg{Bufs: bufs(2, api.Buf{Size: 1})}, api.ErrArg},
		"a buffer of kind 4":           {api.LimbProg{Bufs: bufs(2, api.Buf{Size: 1, Kind: 4})}, api.ErrArg},
		"a buffer of kind -1":          {api.LimbProg{Bufs: bufs(2, api.Buf{Size: 1, Kind: -1})}, api.ErrArg},
		"of kind 0, wrong op":          {api.LimbProg{Bufs: bufs(2, api.Buf{Size: 1}), Ops: append(row(loop(0, 1)), wrong...)}, api.ErrArg},
		"registers below 0, a loop":    {api.LimbProg{Regs: -1, Ops: row(loop(0, 1))}, api.ErrArg},
		"registers below 0, right ops": {api.LimbProg{Regs: -64, Ops: row(constant(0, 1), op(api.LimbEnd))}, api.ErrArg},
	} {
		t.Run(name, func(t *testing.T) { mayNot(t, c.p, 0, c.e) })
	}
}

// wrongs answers what a part may have: with it (from 0 to below so many), and without it.
func wrongs(has bool, n int) []int {
	if has {
		return []int{-2, math.MinInt, n, n + 1, math.MaxInt}
	}
	return []int{0, 1, n - 1, -2, n, math.MaxInt, math.MinInt}
}

// P12.1: what each kind has: right and wrong registers, buffers and numbers, one by one
func TestCheckOfOperations(t *testing.T) {
	ahead := row(constant(0, 1), constant(1, 1), constant(2, 1), constant(7, 1))
	for kind, shape := range shapes {
		o := op(kind)
		has := func(letter string) bool { return strings.Contains(shape, letter) }
		for letter, r := range map[string]*int{"D": &o.D, "E": &o.E, "A": &o.A, "B": &o.B, "C": &o.C} {
			if has(letter) {
				*r = strings.Index("ABC D  E", letter)
			}
		}
		if has("P") {
			o.Buf = 1
		}
		if has("s") || has("t") {
			o.Imm = 1
		}
		p := func(o api.LimbOp) api.LimbProg {
			l := slices.Concat(ahead, row(o))
			if kind == api.LimbLoop {
				l = append(l, end)
			}
			if kind == api.LimbEnd {
				l = slices.Insert(l, 0, loop(6, 1))
			}
			return program(l...)
		}
		at := slices.Index(p(o).Ops, o)
		may(t, p(o))
		for letter, get := range map[string]func(*api.LimbOp) *int{
			"D": func(o *api.LimbOp) *int { return &o.D }, "E": func(o *api.LimbOp) *int { return &o.E },
			"A": func(o *api.LimbOp) *int { return &o.A }, "B": func(o *api.LimbOp) *int { return &o.B },
			"C": func(o *api.LimbOp) *int { return &o.C },
		} {
			for _, r := range wrongs(has(letter) || letter == "A" && has("a"), 8) {
				w := o
				*get(&w) = r
				mayNot(t, p(w), at, api.ErrArg)
			}
			if has(letter) {
				w := o
				*get(&w) = -1
				mayNot(t, p(w), at, api.ErrArg)
			}
		}
		for _, b := range []int{-1, 3, 4, 1, 2, math.MinInt, math.MaxInt} {
			if w := o; !has("P") || b < 1 || b > 2 {
				w.Buf = b
				mayNot(t, p(w), at, api.ErrArg)
			}
		}
		for _, n := range []uint64{0, 1, 2, 3, 4, 62, 63, 64, 65, 1<<20 - 1, 1 << 20, 1<<20 + 1, 1 << 32, 1<<32 + 1, 1 << 63, top} {
			w := o
			w.Imm = n
			fine := n == 0 && !has("s") && !has("t") || has("D") && has("n") && !has("P") ||
				has("P") && n < 3 || has("s") && n >= 1 && n <= 63 || has("t") && n >= 1 && n <= 1<<20
			if fine {
				may(t, p(w))
			} else {
				mayNot(t, p(w), at, api.ErrArg)
			}
			if w.A = 2; has("P") {
				may(t, p(w))
			}
		}
	}
	for _, kind := range []int{0, -1, 18, 19, math.MinInt, math.MaxInt} {
		mayNot(t, program(append(ahead, op(kind))...), 4, api.ErrArg)
		mayNot(t, program(append(ahead, api.LimbOp{Kind: kind})...), 4, api.ErrArg)
	}
}

// P12.1: D and E are unlike, loads are of all buffers, stores of no BufIn
func TestCheckOfRegistersAndBuffers(t *testing.T) {
	ahead := row(constant(0, 1), constant(1, 1))
	for _, o := range row(mul(4, 4, 0, 1), adc(4, 4, 0, 1, 1), api.LimbOp{Kind: api.LimbSbb, D: 4, E: 4}, adc(0, 0, 0, 0, 0)) {
		mayNot(t, program(append(ahead, o)...), 2, api.ErrArg)
	}
	may(t, program(append(ahead, mul(0, 1, 0, 1), adc(1, 0, 1, 0, 0), adc(3, 4, 0, 0, 0))...))
	for buf := range 3 {
		may(t, program(append(ahead, load(0, -1, buf, 2), load(0, 1, buf, top))...))
		mayNot(t, program(append(ahead, load(0, -1, buf, 3))...), 2, api.ErrArg)
		if buf > 0 {
			may(t, program(append(ahead, store(-1, 0, buf, 2), store(1, 0, buf, top))...))
			mayNot(t, program(append(ahead, store(-1, 0, buf, 3))...), 2, api.ErrArg)
		}
	}
	mayNot(t, program(append(ahead, store(-1, 0, 0, 0))...), 2, api.ErrArg)
	mayNot(t, program(append(ahead, store(1, 0, 0, 0))...), 2, api.ErrArg)
	p := program(append(ahead, load(0, -1, 0, 0))...)
	p.Bufs = nil
	mayNot(t, p, 2, api.ErrArg)
	mayNot(t, api.LimbProg{Ops: row(constant(0, 1))}, 0, api.ErrArg)
}

// P12.1: ErrState: ends and loops that do not belong to one another, what a loop's register may not be
func TestCheckOfLoops(t *testing.T) {
	for _, c := range []struct {
		l  []api.LimbOp
		at int
	}{
		{row(end), 0},
		{row(loop(0, 1), end, end), 2},
		{row(loop(0, 1), loop(1, 1), end, end, constant(0, 1), end), 5},
		{row(loop(0, 1), constant(0, 1), end), 1},
		{row(constant(1, 1), loop(0, 1), move(0, 1), end), 2},
		{row(loop(0, 1), add(0, 0, 0), end), 1},
		{row(loop(0, 1), mul(0, 1, 0, 0), end), 1},
		{row(loop(0, 1), mul(1, 0, 0, 0), end), 1},
		{row(loop(0, 1), adc(1, 0, 0, 0, 0), end), 1},
		{row(loop(0, 1), load(0, -1, 1, 0), end), 1},
		{row(loop(0, 1), loop(1, 1), end, constant(0, 1), end), 3},
		{row(loop(0, 1), loop(1, 1), constant(0, 1), end, end), 2},
		{row(loop(0, 1), loop(1, 1), constant(2, 1), adc(3, 0, 1, 1, 1), end, end), 3},
		{row(loop(0, 1), loop(0, 1), end, end), 1},
		{row(loop(0, 1), loop(1, 1), loop(0, 1), end, end, end), 2},
		{row(constant(0, 1), loop(0, 1), end), 1},
		{row(constant(2, 1), mul(1, 0, 2, 2), loop(0, 1), end), 2},
		{row(loop(1, 1), constant(0, 1), end, loop(0, 1), end), 3},
		{row(loop(1, 1), constant(0, 1), loop(0, 1), end, end), 2},
		{row(loop(0, 1)), 1},
		{row(loop(0, 1), loop(1, 1), end), 3},
		{row(loop(0, 1), end, loop(0, 1)), 3},
	} {
		mayNot(t, program(c.l...), c.at, api.ErrState)
	}
	for _, l := range [][]api.LimbOp{
		row(loop(0, 1), end),
		row(loop(0, 1), end, loop(0, 1), end, constant(0, 1), move(0, 0)),
		row(loop(0, 1), loop(1, 1), end, constant(1, 1), end),
		row(loop(0, 1), loop(1, 1), end, loop(1, 1), end, end, loop(1, 1), loop(0, 1), end, end),
		row(loop(0, 1), constant(1, 1), end, move(2, 1)),
	} {
		may(t, program(l...))
	}
}

// deep answers so many loops in one another, of so many times.
func deep(n int, times uint64, inner ...api.LimbOp) []api.LimbOp {
	var l []api.LimbOp
	for k := range n {
		l = append(l, loop(k, times))
	}
	return slices.Concat(l, inner, slices.Repeat(row(end), n))
}

// P12.1: ErrFull of the ninth loop in one another, however many are beside one another
func TestCheckOfDeepLoops(t *testing.T) {
	may(t, program(deep(8, 1)...))
	may(t, program(append(deep(8, 1), deep(8, 2)...)...))
	p := program(deep(9, 1)...)
	p.Regs = 9
	mayNot(t, p, 8, api.ErrFull)
	p.Ops = deep(8, 1, loop(8, 1), end)
	mayNot(t, p, 8, api.ErrFull)
	p.Ops = deep(7, 1, loop(7, 1), end, loop(8, 1), end)
	may(t, p)
	p.Ops = deep(7, 1, loop(7, 1), end, loop(8, 1), loop(7, 1), end, end)
	mayNot(t, p, 10, api.ErrFull)
}

// P12.1: ErrNone of what was not made: nowhere, later, by the operation itself, by a loop behind its end
func TestCheckOfWhatWasNotMade(t *testing.T) {
	one := constant(0, 1)
	for _, c := range []struct {
		l  []api.LimbOp
		at int
	}{
		{row(move(0, 1)), 0},
		{row(move(0, 0)), 0},
		{row(add(0, 0, 0)), 0},
		{row(one, add(1, 0, 1)), 1},
		{row(one, add(1, 2, 0)), 1},
		{row(one, adc(1, 2, 0, 0, 1)), 1},
		{row(one, adc(1, 2, 0, 2, 0)), 1},
		{row(one, adc(1, 2, 3, 0, 0)), 1},
		{row(one, api.LimbOp{Kind: api.LimbSel, D: 1, E: -1, A: 0, B: 0, C: 1}), 1},
		{row(one, api.LimbOp{Kind: api.LimbShl, D: 1, E: -1, A: 1, B: -1, C: -1, Imm: 1}), 1},
		{row(move(1, 0), one), 0},
		{row(load(1, 0, 0, 0)), 0},
		{row(load(1, 1, 0, 0)), 0},
		{row(store(-1, 0, 1, 0)), 0},
		{row(one, store(1, 0, 1, 0)), 1},
		{row(one, store(0, 1, 1, 0)), 1},
		{row(loop(0, 1), end, move(1, 0)), 2},
		{row(loop(0, 1), loop(1, 1), end, move(2, 1), end), 3},
		{row(loop(0, 2), move(2, 1), constant(1, 1), end), 1},
		{row(loop(0, 1), store(-1, 1, 1, 0), end), 1},
	} {
		mayNot(t, program(c.l...), c.at, api.ErrNone)
	}
	for _, l := range [][]api.LimbOp{
		row(one, move(1, 0), add(0, 0, 1), mul(0, 2, 1, 0), add(3, 2, 0)),
		row(loop(0, 1), move(1, 0), loop(2, 1), add(3, 0, 2), add(3, 3, 1), end, move(4, 3), end, move(5, 4), add(5, 3, 1)),
		row(loop(0, 1), end, one, move(1, 0)),
	} {
		may(t, program(l...))
	}
}

// P12.1: the order of errors: of one operation, and of several
func TestOrderOfErrors(t *testing.T) {
	nine := func(inner api.LimbOp) api.LimbProg {
		p := program(deep(8, 1, inner, end)...)
		p.Regs = 10
		return p
	}
	mayNot(t, program(loop(0, 1), api.LimbOp{Kind: api.LimbAdd, D: 0, E: 0, A: 5, B: 5, C: -1}, end), 1, api.ErrArg)
	mayNot(t, program(loop(0, 1), mul(0, 0, 5, 5), end), 1, api.ErrArg)
	mayNot(t, program(loop(0, 1), add(0, 5, 5), end), 1, api.ErrState)
	mayNot(t, program(loop(0, 1), mul(1, 0, 5, 5), end), 1, api.ErrState)
	mayNot(t, program(api.LimbOp{Kind: api.LimbEnd}), 0, api.ErrArg)
	mayNot(t, nine(loop(8, 0)), 8, api.ErrArg)
	mayNot(t, nine(loop(8, 1<<20+1)), 8, api.ErrArg)
	mayNot(t, nine(loop(7, 1)), 8, api.ErrState)
	mayNot(t, nine(loop(8, 1)), 8, api.ErrFull)
	mayNot(t, program(move(0, 1), end, op(0)), 0, api.ErrNone)
	mayNot(t, program(end, move(0, 1), op(0)), 0, api.ErrState)
	mayNot(t, program(op(0), move(0, 1), end), 0, api.ErrArg)
	mayNot(t, program(loop(0, 1), move(1, 2)), 1, api.ErrNone)
	mayNot(t, program(loop(0, 1), op(0)), 1, api.ErrArg)
}

// P12.1: Steps of loops in and beside one another, up to 2^50, and beyond
func TestSteps(t *testing.T) {
	c := constant(60, 1)
	many := func(n int) []api.LimbOp { return slices.Repeat(row(c), n) }
	// Together with the loops' own events: 2^20 times 2^30.
	great := func(inner, outer int) []api.LimbOp {
		inside := slices.Concat(row(loop(1, 1<<20-1)), many(inner), row(end))
		return slices.Concat(row(loop(0, 1<<20)), inside, many(outer), row(end))
	}
	for k, x := range []struct {
		l    []api.LimbOp
		want int
	}{
		{many(7), 7},
		{row(loop(0, 5), end), 5},
		{row(loop(0, 5), c, end), 10},
		{row(c, loop(0, 5), c, end, c), 12},
		{row(loop(0, 5), c, loop(1, 3), c, c, end, end, loop(0, 2), end), 57},
		{deep(8, 1), 8},
		{deep(8, 2), 510},
		{deep(2, 1<<20), 1<<40 + 1<<20},
		{great(1023, 1023), 1 << 50},
		{great(1023, 1022), 1<<50 - 1<<20},
		{append(great(1023, 1022), many(1<<16-2100)...), 1<<50 - 1<<20 + 1<<16 - 2100},
		{slices.Concat(great(1023, 1022), row(loop(0, 1<<20-1), end)), 1<<50 - 1},
		{slices.Concat(great(1023, 1022), row(loop(0, 1<<20-1), end, c)), 1 << 50},
		{slices.Concat(great(1023, 1022), row(loop(0, 1<<20-1), end, c, c)), 1 << 50},
		{append(great(1023, 1023), c), 1 << 50},
		{great(1024, 1023), 1 << 50},
		{deep(3, 1<<20), 1 << 50},
		{deep(4, 1<<20), 1 << 50},
		{deep(8, 1<<20), 1 << 50},
		{slices.Concat(deep(8, 1<<20), deep(8, 1<<20), deep(8, 1<<20), many(5)), 1 << 50},
		{deep(3, 1<<20, slices.Repeat(row(loop(5, 1<<20), end), 4096)...), 1 << 50},
		// 2^20 events, and 2^20 times 2^44 - 1: their sum is 2^64.
		{slices.Concat(row(loop(0, 1<<20), end, loop(0, 1<<20), loop(1, 1<<20), loop(2, 1<<20-1)), many(15), row(end), many(14), row(end, loop(3, 1<<20-2), end, end)), 1 << 50},
	} {
		p := api.LimbProg{Regs: 64, Ops: x.l}
		if n := Steps(p); n != x.want {
			t.Errorf("%d: %d, not %d", k, n, x.want)
		}
	}
}

// P12.1: what of a run's events is so many that a product goes round at 2^64
func TestStepsDoNotGoRound(t *testing.T) {
	for n := 1; n <= 8; n++ {
		for _, times := range []uint64{1, 2, 3, 1 << 16, 1<<16 - 1, 1<<20 - 1, 1 << 20} {
			may(t, api.LimbProg{Regs: 64, Ops: deep(n, times, constant(60, 1), constant(60, 2))})
		}
	}
}

// P12.1: Ends, by hand
func TestEnds(t *testing.T) {
	p := program(constant(7, 1), loop(0, 2), loop(1, 2), constant(6, 1), end, loop(1, 2), end, end, loop(0, 1), end)
	if l := Ends(p); !slices.Equal(l, []int{-1, 7, 4, -1, 2, 6, 5, 1, 9, 8}) {
		t.Error(l)
	}
	if l := Ends(program(constant(7, 1))); !slices.Equal(l, []int{-1}) {
		t.Error(l)
	}
}

// P12.1: Copy is the same and on its own, of programs that may not be, too; Same looks at all that there is.
func TestCopyAndSame(t *testing.T) {
	for _, p := range []api.LimbProg{
		program(loop(0, 2), store(0, 0, 1, 0), end),
		{Regs: -5, Bufs: []api.Buf{{Size: -1, Kind: 9}}, Ops: []api.LimbOp{{Kind: 99, D: math.MaxInt, Imm: top}}},
		{Regs: math.MaxInt, Bufs: make([]api.Buf, 100), Ops: make([]api.LimbOp, 1<<16+5)},
	} {
		c := Copy(p)
		if !Same(p, c) || !Same(c, p) || !Same(p, p) || !reflect.DeepEqual(p, c) {
			t.Errorf("%+v, not %+v", c, p)
		}
		changes := []func(*api.LimbProg){
			func(p *api.LimbProg) { p.Regs++ },
			func(p *api.LimbProg) { p.Bufs[len(p.Bufs)-1].Size++ },
			func(p *api.LimbProg) { p.Bufs[0].Kind++ },
			func(p *api.LimbProg) { p.Bufs[0].Secret = !p.Bufs[0].Secret },
			func(p *api.LimbProg) { p.Bufs = p.Bufs[1:] },
			func(p *api.LimbProg) { p.Bufs = append(p.Bufs, api.Buf{}) },
			func(p *api.LimbProg) { p.Ops[0].Kind++ },
			func(p *api.LimbProg) { p.Ops[0].D-- },
			func(p *api.LimbProg) { p.Ops[0].E-- },
			func(p *api.LimbProg) { p.Ops[len(p.Ops)-1].A-- },
			func(p *api.LimbProg) { p.Ops[0].B-- },
			func(p *api.LimbProg) { p.Ops[0].C-- },
			func(p *api.LimbProg) { p.Ops[0].Buf++ },
			func(p *api.LimbProg) { p.Ops[0].Imm++ },
			func(p *api.LimbProg) { p.Ops = p.Ops[:len(p.Ops)-1] },
			func(p *api.LimbProg) { p.Ops = append(p.Ops, api.LimbOp{}) },
		}
		for k, change := range changes {
			d := Copy(p)
			change(&d)
			if Same(p, d) || Same(d, p) || !Same(p, c) {
				t.Errorf("change %d of %+v", k, p.Regs)
			}
		}
	}
}

// DOC.md's rules 3 and 4: nil and empty are one and the same; a copy shares no memory, nor any spare room.
func TestCopyOfListsWithoutItems(t *testing.T) {
	spare := program(constant(0, 1))
	room := api.LimbProg{Regs: 8, Bufs: spare.Bufs[:0], Ops: spare.Ops[:0]}
	empty := api.LimbProg{Regs: 8, Bufs: []api.Buf{}, Ops: []api.LimbOp{}}
	none := api.LimbProg{Regs: 8}
	for _, a := range []api.LimbProg{room, empty, none} {
		for _, b := range []api.LimbProg{room, empty, none, Copy(room), Copy(empty), Copy(none)} {
			if !Same(a, b) || Same(a, spare) || Same(spare, b) {
				t.Error(a, b)
			}
		}
	}
	c := Copy(room)
	_, _ = append(c.Bufs, api.Buf{}), append(c.Ops, api.LimbOp{})
	if !Same(spare, program(constant(0, 1))) {
		t.Error(spare)
	}
	p := program(constant(0, 1), constant(1, 1))
	p.Ops, p.Bufs = p.Ops[:1], p.Bufs[:1]
	c = Copy(p)
	spoilRoom(c.Ops, api.LimbOp{Kind: 77})
	spoilRoom(c.Bufs, api.Buf{Kind: 77})
	if whole := program(constant(0, 1), constant(1, 1)); !slices.Equal(p.Ops[:2], whole.Ops) || !slices.Equal(p.Bufs[:3], whole.Bufs) {
		t.Error(p)
	}
}

// spoilRoom writes over a list and its spare room.
func spoilRoom[T any](l []T, with T) {
	l = l[:cap(l)]
	for k := range l {
		l[k] = with
	}
}

// pairs are words at the edges.
var pairs = []uint64{0, 1, 2, 3, 1<<32 - 1, 1 << 32, 1<<32 + 1, 1<<63 - 1, 1 << 63, 1<<63 + 1, top - 1, top, 0x0123456789abcdef}

// P12.2: what each kind over registers means, of words at the edges, into registers of its own and into those that are taken
func TestOperations(t *testing.T) {
	kinds := []int{api.LimbMove, api.LimbAdd, api.LimbSub, api.LimbAnd, api.LimbOr, api.LimbXor, api.LimbMul, api.LimbAdc, api.LimbSbb, api.LimbSel}
	for _, kind := range kinds {
		shape := shapes[kind]
		for _, into := range [][2]int{{3, 4}, {0, 1}, {1, 0}, {2, 0}, {1, 2}} {
			o := op(kind)
			o.D, o.A = into[0], 0
			if strings.Contains(shape, "E") {
				o.E = into[1]
			}
			if strings.Contains(shape, "B") {
				o.B = 1
			}
			if strings.Contains(shape, "C") {
				o.C = 2
			}
			for _, a := range pairs {
				for _, b := range pairs {
					for _, c := range []uint64{0, 1, 2, top - 1, top} {
						runs(t, told(a, b, c, o), [][]uint64{make([]uint64, 8)})
					}
				}
			}
		}
	}
}

// told answers a program that tells all registers behind an operation, with a, b, c and 5, 6 in the first ones.
func told(a, b, c uint64, o api.LimbOp) api.LimbProg {
	p := api.LimbProg{Regs: 5, Bufs: []api.Buf{{Size: 8, Kind: api.BufOut}}}
	p.Ops = row(constant(0, a), constant(1, b), constant(2, c), constant(3, 5), constant(4, 6), o)
	for r := range 5 {
		p.Ops = append(p.Ops, store(-1, r, 0, uint64(r)))
	}
	return p
}

// P12.2: constants and shifts, by all that there may be
func TestNumbers(t *testing.T) {
	for _, a := range pairs {
		runs(t, told(a, 0, 0, constant(3, a)), [][]uint64{make([]uint64, 8)})
		for n := uint64(1); n < 64; n++ {
			for _, kind := range []int{api.LimbShl, api.LimbShr} {
				for d := range 2 {
					o := api.LimbOp{Kind: kind, D: d, E: -1, A: 0, B: -1, C: -1, Imm: n}
					runs(t, told(a, 1, 1, o), [][]uint64{make([]uint64, 8)})
				}
			}
		}
	}
}

// P12.2: what operations mean, by hand
func TestOperationsByHand(t *testing.T) {
	for _, c := range []struct {
		kind    int
		a, b, c uint64
		d, e    uint64
	}{
		{api.LimbAdd, top, 2, 0, 1, 6},
		{api.LimbSub, 1, 2, 0, top, 6},
		{api.LimbAnd, 12, 10, 0, 8, 6},
		{api.LimbOr, 12, 10, 0, 14, 6},
		{api.LimbXor, 12, 10, 0, 6, 6},
		{api.LimbMul, 1 << 63, 6, 0, 3, 0},
		{api.LimbMul, top, top, 0, top - 1, 1},
		{api.LimbAdc, top, top, top, top, 1},
		{api.LimbAdc, top, 0, 2, top, 0},
		{api.LimbAdc, top, 0, 3, 0, 1},
		{api.LimbSbb, 0, top, 1, 0, 1},
		{api.LimbSbb, 5, 4, 1, 0, 0},
		{api.LimbSbb, 5, 5, 2, 0, 0},
		{api.LimbSel, 7, 8, 1, 7, 6},
		{api.LimbSel, 7, 8, 2, 8, 6},
		{api.LimbSel, 7, 8, top, 7, 6},
	} {
		o := api.LimbOp{Kind: c.kind, D: 3, E: -1, A: 0, B: 1, C: -1}
		if c.kind == api.LimbMul || c.kind == api.LimbAdc || c.kind == api.LimbSbb {
			o.E = 4
		}
		if strings.Contains(shapes[c.kind], "C") {
			o.C = 2
		}
		out, l, e := runs(t, told(c.a, c.b, c.c, o), [][]uint64{make([]uint64, 8)})
		if e != api.OK || len(l) != 11 || !slices.Equal(out[0], []uint64{c.a, c.b, c.c, c.d, c.e, 0, 0, 0}) {
			t.Errorf("%+v: %v, %v, %d", c, out, l, e)
		}
	}
}

// P12.2: all rows are told: what is handed in, what is stored, noughts of a BufTmp
func TestRows(t *testing.T) {
	out, _, e := runs(t, program(), given())
	if want := [][]uint64{{11, 12, 13}, {21, 22, 23}, {0, 0, 0}}; e != api.OK || !reflect.DeepEqual(out, want) {
		t.Error(out, e)
	}
	p := program(load(0, -1, 0, 2), load(1, -1, 1, 1), load(2, -1, 2, 0), store(-1, 0, 1, 0), store(-1, 1, 2, 2), store(-1, 2, 1, 1), load(3, -1, 2, 2), store(-1, 3, 1, 2))
	out, l, e := runs(t, p, given())
	want := [][]uint64{{11, 12, 13}, {13, 0, 22}, {0, 0, 22}}
	wantL := seen([2]int{0, 2}, [2]int{1, 1}, [2]int{2, 0}, [2]int{3, 0}, [2]int{4, 2}, [2]int{5, 1}, [2]int{6, 2}, [2]int{7, 2})
	if e != api.OK || !reflect.DeepEqual(out, want) || !slices.Equal(l, wantL) {
		t.Error(out, l, e)
	}
	// Another run begins anew.
	again, _, _ := runs(t, p, given())
	if !reflect.DeepEqual(again, want) {
		t.Error(again)
	}
}

// P12.2: a load or store with a register: its place goes round at 2^64
func TestPlacesGoRound(t *testing.T) {
	for _, c := range []struct {
		imm, a uint64
		at     int
	}{
		{0, 0, 0}, {0, 2, 2}, {2, 0, 2}, {1, 1, 2}, {top, 1, 0}, {top, 3, 2}, {3, top, 2}, {1, top, 0}, {1 << 63, 1<<63 + 1, 1}, {top - 1, 3, 1},
	} {
		out, l, e := runs(t, program(constant(0, c.a), load(1, 0, 0, c.imm), store(0, 1, 1, c.imm)), given())
		if e != api.OK || out[1][c.at] != out[0][c.at] || l[1].At != c.at || l[2] != (api.LimbEvent{Op: 2, At: c.at}) {
			t.Errorf("%+v: %v, %v, %d", c, out, l, e)
		}
	}
}

// P12.2: ErrFault of a place beyond the buffer, and what was seen ahead of it
func TestFaults(t *testing.T) {
	for _, c := range []struct{ imm, a uint64 }{
		{0, 3}, {3, 0}, {2, 1}, {1, 2}, {0, top}, {top, 0}, {top, top}, {top, 4}, {1 << 63, 0}, {1 << 63, 1<<63 + 3}, {1 << 32, 0}, {0, 1 << 16},
	} {
		for buf := range 3 {
			for _, o := range row(load(1, 0, buf, c.imm), store(0, 0, max(buf, 1), c.imm)) {
				out, l, e := runs(t, program(constant(0, c.a), o, constant(2, 5)), given())
				if out != nil || !slices.Equal(l, []api.LimbEvent{{Op: 0, At: -1}}) || e != api.ErrFault {
					t.Errorf("%+v: %v, %v, %d", c, out, l, e)
				}
			}
		}
	}
	// The fourth time is too much.
	out, l, e := runs(t, program(loop(0, 5), store(0, 0, 1, 0), load(1, -1, 0, 0), end), given())
	if want := seen([2]int{0, -1}, [2]int{1, 0}, [2]int{2, 0}, [2]int{0, -1}, [2]int{1, 1}, [2]int{2, 0}, [2]int{0, -1}, [2]int{1, 2}, [2]int{2, 0}, [2]int{0, -1}); out != nil || !slices.Equal(l, want) || e != api.ErrFault {
		t.Error(out, l, e)
	}
}

// P12.2: loops: in one another, beside one another, once, again with the same register; registers go on from time to time
func TestLoops(t *testing.T) {
	p := program(constant(7, 0), constant(6, 1),
		loop(0, 3), add(7, 7, 6), loop(1, 2), add(7, 7, 1), add(7, 7, 0), end, loop(1, 1), add(7, 7, 1), end, end,
		store(-1, 7, 1, 0), loop(0, 3), store(0, 0, 2, 0), move(5, 0), end, store(-1, 5, 1, 1))
	out, l, e := runs(t, p, given())
	// Three times 1, three times 0 and 1, twice 0 to 2.
	if e != api.OK || !reflect.DeepEqual(out[1:], [][]uint64{{3 + 3 + 6, 2, 23}, {0, 1, 2}}) || len(l) != Steps(p) {
		t.Error(out, l, e)
	}
	q := program(deep(8, 2, add(8, 0, 7), store(1, 8, 1, 0))...)
	q.Regs = 9
	out, l, e = runs(t, q, given())
	if e != api.OK || len(l) != 510+512 || !slices.Equal(out[1], []uint64{2, 2, 23}) {
		t.Error(out, len(l), e)
	}
}

// P12.2: a loop's register is made anew by each loop, though another operation made it between
func TestLoopsBeginAnew(t *testing.T) {
	p := program(loop(0, 2), loop(1, 2), store(0, 1, 1, 0), end, constant(1, 77), store(-1, 1, 2, 0), end, store(-1, 1, 1, 2))
	out, l, e := runs(t, p, given())
	if e != api.OK || !reflect.DeepEqual(out[1:], [][]uint64{{1, 1, 77}, {77, 0, 0}}) || len(l) != 2*(1+4+2)+1 {
		t.Error(out, l, e)
	}
}

// P12.2: 2^24 events are let be, one more is not, whatever rows there are
func TestLongRuns(t *testing.T) {
	p := program(loop(0, 1<<20), add(1, 0, 0), loop(2, 7), add(1, 1, 2), end, end, store(-1, 1, 1, 0))
	// Each time a loop, a sum, and 7 times two.
	p.Ops[2].Imm = 7
	p.Ops[0].Imm = 1<<20 - 1
	p.Ops = slices.Concat(p.Ops[:6], row(loop(0, 15), end), p.Ops[6:])
	if n := Steps(p); n != 1<<24 {
		t.Fatal(n)
	}
	out, l, e := Run(p, given())
	if e != api.OK || len(l) != 1<<24 || out[1][0] != 2*(1<<20-2)+21 {
		t.Error(out, len(l), e)
	}
	if first, last := l[0], l[1<<24-1]; first != (api.LimbEvent{Op: 0, At: -1}) || last != (api.LimbEvent{Op: 8, At: 0}) {
		t.Error(first, last)
	}
	p.Ops = append(p.Ops, constant(3, 1))
	for _, rows := range [][][]uint64{given(), nil, {{1}}} {
		if out, l, e := Run(p, rows); out != nil || l != nil || e != api.ErrFull {
			t.Error(out, len(l), e)
		}
	}
	p.Ops = deep(8, 1<<20)
	if out, l, e := Run(p, given()); out != nil || l != nil || e != api.ErrFull {
		t.Error(out, len(l), e)
	}
}

// P12.2: a fault is told of a long run, too, with what was seen ahead
func TestFaultInALongRun(t *testing.T) {
	p := program(loop(0, 1<<20), load(1, 0, 0, top-1<<20+1), end)
	if out, l, e := Run(p, given()); out != nil || len(l) != 1 || e != api.ErrFault {
		t.Error(out, len(l), e)
	}
	p.Bufs[0].Size = 1 << 16
	p.Ops[1] = load(1, 0, 0, 0)
	rows := given()
	rows[0] = make([]uint64, 1<<16)
	if out, l, e := Run(p, rows); out != nil || len(l) != 2<<16+1 || l[2<<16] != (api.LimbEvent{Op: 0, At: -1}) || e != api.ErrFault {
		t.Error(out, len(l), e)
	}
}

// P12.2: ErrArg of rows that do not fit, behind Check's errors
func TestWrongRows(t *testing.T) {
	p := program(constant(0, 9), load(0, 0, 0, 0))
	three := []uint64{1, 2, 3}
	for k, rows := range [][][]uint64{
		nil, {}, {three}, {three, three}, {three, three, nil, nil}, {three, three, {}, {}},
		{nil, three, nil}, {three, nil, nil}, {three[:2], three, nil}, {three, three[:2], nil},
		{{1, 2, 3, 4}, three, nil}, {three, {1, 2, 3, 4}, nil}, {three, three, three}, {three, three, {0, 0, 0}}, {three, three, {0}},
	} {
		if out, l, e := Run(p, rows); out != nil || l != nil || e != api.ErrArg {
			t.Errorf("%d: %v, %v, %d", k, out, l, e)
		}
	}
	for _, tmp := range [][]uint64{nil, {}, make([]uint64, 0, 3), three[:0]} {
		if _, _, e := Run(p, [][]uint64{three, three, tmp}); e != api.ErrFault {
			t.Error(e)
		}
	}
	mayNot(t, program(constant(0, 9), load(0, 1, 0, 0)), 1, api.ErrNone)
}

// DOC.md's rule 3: rows that are told are own ones, their spare room too; nothing of those handed in is read or written.
func TestRowsAreOwn(t *testing.T) {
	room := []uint64{1, 2, 3, 4, 5, 6, 7, 8}
	p := program(constant(0, 9), store(-1, 0, 1, 0), store(-1, 0, 2, 1))
	// One and the same row is handed in twice, and lies in the spare room of itself.
	handed := [][]uint64{room[:3], room[:3], room[5:5]}
	out, l, e := Run(p, handed)
	want := [][]uint64{{1, 2, 3}, {9, 2, 3}, {0, 9, 0}}
	if e != api.OK || !reflect.DeepEqual(out, want) || !slices.Equal(room, []uint64{1, 2, 3, 4, 5, 6, 7, 8}) {
		t.Error(out, e, room)
	}
	again, againL, _ := Run(p, handed)
	for k, r := range again {
		spoilRoom(r, uint64(k)+50)
	}
	spoilRoom(againL, api.LimbEvent{Op: 99})
	spoilRoom(again, nil)
	for k, r := range out {
		for _, x := range r[len(r):cap(r)] {
			if x != 0 {
				t.Error(k, r[:cap(r)])
			}
		}
	}
	if !reflect.DeepEqual(out, want) || len(l) != 3 || l[2] != (api.LimbEvent{Op: 2, At: 1}) || !slices.Equal(room, []uint64{1, 2, 3, 4, 5, 6, 7, 8}) {
		t.Error(out, l, room)
	}
	spoilRoom(out[0], 7)
	spoilRoom(out[1], 8)
	if !slices.Equal(out[2], want[2]) {
		t.Error(out)
	}
}

// P12.1, P12.2: programs by chance against the model, as they are and with something changed
func TestByChance(t *testing.T) {
	c := chance(12)
	ok, fault, wrong := 0, 0, map[api.Errno]int{}
	for range 12000 {
		p := chanced(c)
		if modelSteps(p.Ops).Cmp(big.NewInt(3000)) > 0 {
			continue
		}
		if _, _, e := runs(t, p, chancedRows(c, p.Bufs)); e == api.OK {
			ok++
		} else {
			fault++
		}
		for range 3 {
			q := Copy(p)
			for range 1 + c.Intn(2) {
				spoil(c, &q)
			}
			at, e := Check(q)
			wantAt, wantE := modelCheck(q)
			if at != wantAt || e != wantE {
				t.Fatalf("Check of %+v: %d, %d, not %d, %d", q, at, e, wantAt, wantE)
			}
			if wrong[e]++; e == api.OK {
				may(t, q)
			} else {
				mayNot(t, q, at, e)
			}
		}
	}
	if ok < 1000 || fault < 1000 || wrong[api.OK] < 1000 || wrong[api.ErrArg] < 1000 || wrong[api.ErrState] < 1000 || wrong[api.ErrNone] < 1000 {
		t.Error(ok, fault, wrong)
	}
}

// P12.3: as many events as Steps; with a fault fewer; registers that are not taken do not matter
func TestWhatFollows(t *testing.T) {
	c := chance(123)
	for range 3000 {
		p := chanced(c)
		if Steps(p) > 3000 {
			continue
		}
		rows := chancedRows(c, p.Bufs)
		out, l, e := Run(p, rows)
		if e == api.OK && len(l) != Steps(p) || e != api.OK && len(l) >= Steps(p) {
			t.Fatalf("%+v: %d events of %d, %d", p, len(l), Steps(p), e)
		}
		// One register more, that nothing takes: made all over the place.
		q := Copy(p)
		q.Regs++
		at := c.Intn(len(p.Ops) + 1)
		q.Ops = slices.Insert(q.Ops, at, constant(p.Regs, chancedWord(c)))
		out2, l2, e2 := Run(q, rows)
		var l3 []api.LimbEvent
		for _, x := range l2 {
			if x.Op != at {
				x.Op -= btoi(x.Op > at)
				l3 = append(l3, x)
			}
		}
		if !slices.EqualFunc(out, out2, slices.Equal) || !slices.Equal(l, l3) || e != e2 {
			t.Fatalf("%+v, %d: %v, %v, %d, not %v, %v, %d", p, at, out2, l3, e2, out, l, e)
		}
	}
}

func btoi(is bool) int {
	if is {
		return 1
	}
	return 0
}
