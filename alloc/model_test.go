package alloc

import (
	"math/rand"
	"slices"
	"strings"

	"keysmith/api"
	"keysmith/limb"
)

// shapes tell what each kind makes and takes, by hand: registers by their letters (a: A or none), P for a limb of a buffer, n for any number, s for a shift's, t for a loop's.
var shapes = map[int]string{
	api.LimbConst: "Dn",
	api.LimbMove:  "DA",
	api.LimbAdd:   "DAB",
	api.LimbSub:   "DAB",
	api.LimbAnd:   "DAB",
	api.LimbOr:    "DAB",
	api.LimbXor:   "DAB",
	api.LimbShl:   "DAs",
	api.LimbShr:   "DAs",
	api.LimbMul:   "DEAB",
	api.LimbAdc:   "DEABC",
	api.LimbSbb:   "DEABC",
	api.LimbSel:   "DABC",
	api.LimbLoad:  "DaP",
	api.LimbStore: "aBP",
	api.LimbLoop:  "Dt",
	api.LimbEnd:   "",
}

// registers answers those of an operation that its shape tells by these letters.
func registers(o api.LimbOp, letters string) []int {
	var l []int
	for _, letter := range shapes[o.Kind] {
		if r := register(o, letter); r >= 0 && strings.ContainsRune(letters, letter) {
			l = append(l, r)
		}
	}
	return l
}

func register(o api.LimbOp, letter rune) int {
	switch letter {
	case 'D':
		return o.D
	case 'E':
		return o.E
	case 'A', 'a':
		return o.A
	case 'B':
		return o.B
	case 'C':
		return o.C
	}
	return -1
}

// modelEnd answers the end's number of the loop at a place, by counting how deep it goes.
func modelEnd(ops []api.LimbOp, loop int) int {
	deep := 0
	for k := loop; ; k++ {
		switch ops[k].Kind {
		case api.LimbLoop:
			deep++
		case api.LimbEnd:
			if deep--; deep == 0 {
				return k
			}
		}
	}
}

// modelLoops answers the loops and their ends, the last loop first.
func modelLoops(ops []api.LimbOp) [][2]int {
	var l [][2]int
	for k := len(ops) - 1; k >= 0; k-- {
		if ops[k].Kind == api.LimbLoop {
			l = append(l, [2]int{k, modelEnd(ops, k)})
		}
	}
	return l
}

// modelLive answers the spans, word by word as the document tells them.
func modelLive(p api.LimbProg) [][2]int {
	loops := modelLoops(p.Ops)
	var l [][2]int
	for r := range p.Regs {
		l = append(l, modelSpan(p.Ops, loops, r))
	}
	return l
}

func modelSpan(ops []api.LimbOp, loops [][2]int, r int) [2]int {
	from, to := -1, -1
	for k := len(ops) - 1; k >= 0; k-- {
		if slices.Contains(registers(ops[k], "DE"), r) {
			from = k
		}
	}
	for k, o := range ops {
		if slices.Contains(registers(o, "DEAaBC"), r) {
			to = k
		}
	}
	for _, loop := range loops {
		if ops[loop[0]].D == r {
			to = max(to, loop[1])
		}
	}
	there := func(loop [2]int) bool { return from < loop[0] && to >= loop[0] && to < loop[1] }
	for k := slices.IndexFunc(loops, there); k >= 0; k = slices.IndexFunc(loops, there) {
		to = loops[k][1]
	}
	return [2]int{from, to}
}

// modelCheck is Check of a program that may be, operation by operation.
func modelCheck(p api.LimbProg, pool int, places []int) api.Errno {
	spans := modelLive(p)
	if pool < 0 || pool > 16 || len(places) != len(spans) {
		return api.ErrArg
	}
	for r, span := range spans {
		if span[0] >= 0 && (places[r] >= pool || places[r] < -64) {
			return api.ErrArg
		}
	}
	for k := range p.Ops {
		keeper := map[int]int{}
		for r, span := range spans {
			if k < span[0] || k > span[1] {
				continue
			}
			if _, there := keeper[places[r]]; there {
				return api.ErrThere
			}
			keeper[places[r]] = r
		}
	}
	return api.OK
}

// crowd answers how many registers are held at one operation at most.
func crowd(p api.LimbProg) int {
	most := 0
	spans := modelLive(p)
	for k := range p.Ops {
		n := 0
		for _, span := range spans {
			if span[0] <= k && k <= span[1] {
				n++
			}
		}
		most = max(most, n)
	}
	return most
}

// keeper does a program without its numbers: it knows whose each place's number is.
type keeper struct {
	ops    []api.LimbOp
	places []int
	whose  map[int]int
}

// span does the operations from one up to another; whether each one finds what it takes, in places that are all unlike.
func (k keeper) span(from, to int) bool {
	for at := from; at < to; at++ {
		o := k.ops[at]
		if !k.takes(o) {
			return false
		}
		k.makes(o)
		if o.Kind != api.LimbLoop {
			continue
		}
		end := modelEnd(k.ops, at)
		for range o.Imm {
			// What counts the loop stands there still at its end, and is made again.
			if !k.span(at+1, end) || k.whose[k.places[o.D]] != o.D {
				return false
			}
		}
		at = end
	}
	return true
}

func (k keeper) takes(o api.LimbOp) bool {
	for _, r := range registers(o, "AaBC") {
		if whose, there := k.whose[k.places[r]]; !there || whose != r {
			return false
		}
	}
	all := registers(o, "DEAaBC")
	for _, r := range all {
		for _, other := range all {
			if r != other && k.places[r] == k.places[other] {
				return false
			}
		}
	}
	return true
}

func (k keeper) makes(o api.LimbOp) {
	for _, r := range registers(o, "DE") {
		k.whose[k.places[r]] = r
	}
}

// does answers whether a program could be done with its registers in these places.
func does(p api.LimbProg, places []int) bool {
	return keeper{ops: p.Ops, places: places, whose: map[int]int{}}.span(0, len(p.Ops))
}

// Programs by chance

func chance(n int64) *rand.Rand { return rand.New(rand.NewSource(n)) }

func chancedOp(c *rand.Rand, p api.LimbProg) api.LimbOp {
	o := op(1 + c.Intn(17))
	if c.Intn(6) == 0 {
		o = op(api.LimbLoop + c.Intn(2))
	}
	for _, letter := range shapes[o.Kind] {
		r := c.Intn(p.Regs)
		switch letter {
		case 'D':
			o.D = r
		case 'E':
			o.E = r
		case 'A':
			o.A = r
		case 'a':
			if c.Intn(3) > 0 {
				o.A = r
			}
		case 'B':
			o.B = r
		case 'C':
			o.C = r
		case 'P':
			o.Buf = c.Intn(len(p.Bufs))
			o.Imm = uint64(c.Intn(3))
		case 'n':
			o.Imm = c.Uint64()
		case 's':
			o.Imm = uint64(1 + c.Intn(63))
		case 't':
			o.Imm = uint64(1 + c.Intn(2))
		}
	}
	return o
}

// chanced answers a program by chance that may be, over so many registers, of about so many operations.
func chanced(c *rand.Rand, regs, ops int) api.LimbProg {
	p := api.LimbProg{Regs: regs, Bufs: program().Bufs}
	// Some are made ahead, so that more may be taken; the others are left to loops.
	for r := range regs {
		if c.Intn(3) == 0 {
			p.Ops = append(p.Ops, constant(r))
		}
	}
	open := 0
	for range 2 * ops {
		o := chancedOp(c, p)
		q := p
		q.Ops = append(slices.Clone(p.Ops), o)
		if at, _ := limb.Check(q); at < len(q.Ops) {
			continue
		}
		p = q
		switch o.Kind {
		case api.LimbLoop:
			open++
		case api.LimbEnd:
			open--
		}
	}
	p.Ops = append(p.Ops, slices.Repeat(row(end), open)...)
	return p
}

// spoiled puts one register into another place, or into another one's.
func spoiled(c *rand.Rand, places []int, pool int) {
	k := c.Intn(len(places))
	if c.Intn(4) == 0 {
		places[k] = c.Intn(pool+68) - 66
	} else {
		places[k] = places[c.Intn(len(places))]
	}
}

// chancedPlaces answers places by chance, some of which there are not.
func chancedPlaces(c *rand.Rand, regs, pool int) []int {
	var l []int
	for range regs {
		l = append(l, c.Intn(pool+regs+2)-regs)
	}
	if len(l) > 0 && c.Intn(6) == 0 {
		l[c.Intn(regs)] = []int{-63, -64, -65, pool - 1, pool}[c.Intn(5)]
	}
	return l
}
