package limb

import (
	"math/big"
	"math/rand"
	"slices"
	"strings"

	"keysmith/api"
)

// shapes tell what each kind has, by hand: registers by their letters (a: A or none), P for a limb of a buffer, n for any number, s for a shift's, t for a loop's.
var shapes = map[int]string{
	api.LimbConst: "Dn",
	api.LimbMove:  "DA",
	api.LimbAdd:   "DAB",
	api.LimbSub:   "DAB",
	api.LimbAnd:   "DAB",
	api.LimbOr:    "DAB",
	api.LimbXor:   "DAB",
	api.LimbShl:   "DAs",
	api.LimbShr:   "DAs",
	api.LimbMul:   "DEAB",
	api.LimbAdc:   "DEABC",
	api.LimbSbb:   "DEABC",
	api.LimbSel:   "DABC",
	api.LimbLoad:  "DaPn",
	api.LimbStore: "aBPn",
	api.LimbLoop:  "Dt",
	api.LimbEnd:   "",
}

// modelHas answers whether an operation has just what its shape says.
func modelHas(p api.LimbProg, o api.LimbOp) bool {
	shape, ok := shapes[o.Kind]
	if !ok {
		return false
	}
	for letter, r := range map[string]int{"D": o.D, "E": o.E, "A": o.A, "B": o.B, "C": o.C} {
		has := strings.Contains(shape, letter) || letter == "A" && strings.Contains(shape, "a") && r != -1
		if has && (r < 0 || r >= p.Regs) || !has && r != -1 {
			return false
		}
	}
	if strings.Contains(shape, "E") && o.D == o.E {
		return false
	}
	return modelHasPlace(p, o, strings.Contains(shape, "P")) && modelHasNumber(o.Imm, shape)
}

func modelHasPlace(p api.LimbProg, o api.LimbOp, has bool) bool {
	if !has {
		return o.Buf == 0
	}
	if o.Buf < 0 || o.Buf >= len(p.Bufs) {
		return false
	}
	if o.Kind == api.LimbStore && p.Bufs[o.Buf].Kind == api.BufIn {
		return false
	}
	return o.A >= 0 || o.Imm < uint64(p.Bufs[o.Buf].Size)
}

func modelHasNumber(n uint64, shape string) bool {
	switch {
	case strings.Contains(shape, "n"):
		return true
	case strings.Contains(shape, "s"):
		return n > 0 && n < 64
	case strings.Contains(shape, "t"):
		return n > 0 && n <= 1048576
	}
	return n == 0
}

// modelEnd answers the end's number of the loop at a place; -1 if it has none.
func modelEnd(ops []api.LimbOp, loop int) int {
	deep := 0
	for k := loop; k < len(ops); k++ {
		if ops[k].Kind == api.LimbLoop {
			deep++
		}
		if ops[k].Kind == api.LimbEnd {
			if deep--; deep == 0 {
				return k
			}
		}
	}
	return -1
}

// modelAround answers the loops that what stands behind these operations stands in.
func modelAround(ops []api.LimbOp) []int {
	var l []int
	for k, o := range ops {
		if o.Kind == api.LimbLoop && modelEnd(ops, k) < 0 {
			l = append(l, k)
		}
	}
	return l
}

// modelMade answers whether a register is made behind these operations.
func modelMade(ops []api.LimbOp, r int) bool {
	made := false
	for k, o := range ops {
		if end := modelEnd(ops, k); o.Kind == api.LimbLoop && o.D == r {
			made = end < 0
		} else if o.Kind != api.LimbLoop && (o.D == r || o.E == r) {
			made = true
		}
	}
	return made
}

// modelFault answers why an operation may not stand behind others.
func modelFault(p api.LimbProg, ahead []api.LimbOp, o api.LimbOp) api.Errno {
	if !modelHas(p, o) {
		return api.ErrArg
	}
	around := modelAround(ahead)
	if o.Kind == api.LimbEnd && len(around) == 0 {
		return api.ErrState
	}
	for _, loop := range around {
		if d := ahead[loop].D; o.D == d || o.E == d {
			return api.ErrState
		}
	}
	if o.Kind == api.LimbLoop && modelMade(ahead, o.D) {
		return api.ErrState
	}
	if o.Kind == api.LimbLoop && len(around) >= 8 {
		return api.ErrFull
	}
	for _, r := range []int{o.A, o.B, o.C} {
		if r >= 0 && !modelMade(ahead, r) {
			return api.ErrNone
		}
	}
	return api.OK
}

// modelCheck is Check of programs within the limits.
func modelCheck(p api.LimbProg) (int, api.Errno) {
	for k, o := range p.Ops {
		if e := modelFault(p, p.Ops[:k], o); e != api.OK {
			return k, e
		}
	}
	if len(modelAround(p.Ops)) > 0 {
		return len(p.Ops), api.ErrState
	}
	return len(p.Ops), api.OK
}

// modelEnds answers loops' ends and ends' loops.
func modelEnds(ops []api.LimbOp) []int {
	l := slices.Repeat([]int{-1}, len(ops))
	for k, o := range ops {
		if o.Kind == api.LimbLoop {
			end := modelEnd(ops, k)
			l[k], l[end] = end, k
		}
	}
	return l
}

// modelSteps answers how many events there are, however many.
func modelSteps(ops []api.LimbOp) *big.Int {
	sum := new(big.Int)
	for k := 0; k < len(ops); k++ {
		if ops[k].Kind != api.LimbLoop {
			sum.Add(sum, big.NewInt(1))
			continue
		}
		end := modelEnd(ops, k)
		inner := modelSteps(ops[k+1 : end])
		inner.Add(inner, big.NewInt(1))
		sum.Add(sum, inner.Mul(inner, new(big.Int).SetUint64(ops[k].Imm)))
		k = end
	}
	return sum
}

// model is a run by great numbers, loops done one in another.
type model struct {
	p    api.LimbProg
	regs map[int]*big.Int
	rows [][]uint64
	seen []api.LimbEvent
}

func modelRun(p api.LimbProg, bufs [][]uint64) ([][]uint64, []api.LimbEvent, api.Errno) {
	m := &model{p: p, regs: map[int]*big.Int{}}
	for k, b := range p.Bufs {
		row := make([]uint64, b.Size)
		copy(row, bufs[k])
		m.rows = append(m.rows, row)
	}
	if !m.span(0, len(p.Ops)) {
		return nil, m.seen, api.ErrFault
	}
	return m.rows, m.seen, api.OK
}

func (m *model) see(op, at int) { m.seen = append(m.seen, api.LimbEvent{Op: op, At: at}) }

// span does the operations from one up to another.
func (m *model) span(from, to int) bool {
	for k := from; k < to; k++ {
		o := m.p.Ops[k]
		switch o.Kind {
		case api.LimbLoop:
			end := modelEnd(m.p.Ops, k)
			for i := range int64(o.Imm) {
				m.regs[o.D] = big.NewInt(i)
				m.see(k, -1)
				if !m.span(k+1, end) {
					return false
				}
			}
			// Nothing takes it any more.
			delete(m.regs, o.D)
			k = end
		case api.LimbLoad, api.LimbStore:
			if !m.limb(k) {
				return false
			}
		default:
			m.results(o)
			m.see(k, -1)
		}
	}
	return true
}

var radix = new(big.Int).Lsh(big.NewInt(1), 64)

func great(v uint64) *big.Int { return new(big.Int).SetUint64(v) }

func (m *model) limb(k int) bool {
	o := m.p.Ops[k]
	at := great(o.Imm)
	if o.A >= 0 {
		at.Add(at, m.regs[o.A]).Mod(at, radix)
	}
	if at.Cmp(big.NewInt(int64(m.p.Bufs[o.Buf].Size))) >= 0 {
		return false
	}
	limb := &m.rows[o.Buf][at.Int64()]
	if o.Kind == api.LimbStore {
		*limb = m.regs[o.B].Uint64()
	} else {
		m.regs[o.D] = great(*limb)
	}
	m.see(k, int(at.Int64()))
	return true
}

// results puts into D and E what is reckoned: a whole number is taken round at 2^64, E is what is above, or whether it is below 0.
func (m *model) results(o api.LimbOp) {
	whole, odd := m.whole(o)
	high, low := new(big.Int).DivMod(whole, radix, new(big.Int))
	switch o.Kind {
	case api.LimbMul:
		m.regs[o.D], m.regs[o.E] = high, low
	case api.LimbAdc, api.LimbSbb:
		m.regs[o.D], m.regs[o.E] = low, high.Abs(high)
	case api.LimbSel:
		if odd {
			m.regs[o.D] = m.regs[o.A]
		} else {
			m.regs[o.D] = m.regs[o.B]
		}
	default:
		m.regs[o.D] = low
	}
}

func (m *model) whole(o api.LimbOp) (whole *big.Int, odd bool) {
	a, b, c, whole := m.regs[o.A], m.regs[o.B], big.NewInt(0), new(big.Int)
	if o.C >= 0 {
		c = great(uint64(m.regs[o.C].Bit(0)))
	}
	switch o.Kind {
	case api.LimbConst:
		whole = great(o.Imm)
	case api.LimbMove:
		whole = a
	case api.LimbAdd, api.LimbAdc:
		whole.Add(a, b).Add(whole, c)
	case api.LimbSub, api.LimbSbb:
		whole.Sub(a, b).Sub(whole, c)
	case api.LimbAnd:
		whole.And(a, b)
	case api.LimbOr:
		whole.Or(a, b)
	case api.LimbXor:
		whole.Xor(a, b)
	case api.LimbShl:
		whole.Lsh(a, uint(o.Imm))
	case api.LimbShr:
		whole.Rsh(a, uint(o.Imm))
	case api.LimbMul:
		whole.Mul(a, b)
	}
	return whole, c.Sign() > 0
}

// Programs by chance

// chancedOp answers an operation of some kind that has what it must, most often.
func chancedOp(c *rand.Rand, p api.LimbProg) api.LimbOp {
	o := api.LimbOp{Kind: 1 + c.Intn(17), D: -1, E: -1, A: -1, B: -1, C: -1}
	for _, letter := range shapes[o.Kind] {
		r := c.Intn(max(p.Regs, 1))
		switch letter {
		case 'D':
			o.D = r
		case 'E':
			o.E = r
		case 'A':
			o.A = r
		case 'a':
			o.A = r - r*c.Intn(2) - c.Intn(2)
		case 'B':
			o.B = r
		case 'C':
			o.C = r
		case 'P':
			o.Buf = c.Intn(max(len(p.Bufs), 1))
		case 'n':
			o.Imm = chancedWord(c)
			if o.Kind != api.LimbConst {
				o.Imm = uint64(c.Intn(5) - c.Intn(2))
			}
		case 's':
			o.Imm = uint64(1 + c.Intn(63))
		case 't':
			o.Imm = uint64(1 + c.Intn(3))
		}
	}
	return o
}

// chancedWord answers a word by chance, at the edges most often.
func chancedWord(c *rand.Rand) uint64 {
	edges := []uint64{0, 1, 2, 3, 1<<32 - 1, 1 << 32, 1<<63 - 1, 1 << 63, 1<<64 - 2, 1<<64 - 1, c.Uint64()}
	return edges[c.Intn(len(edges))]
}

// chanced answers a program by chance that may be.
func chanced(c *rand.Rand) api.LimbProg {
	p := api.LimbProg{Regs: 1 + c.Intn(8)}
	for range c.Intn(4) {
		p.Bufs = append(p.Bufs, api.Buf{Size: 1 + c.Intn(6), Kind: 1 + c.Intn(3), Secret: c.Intn(2) == 0})
	}
	for range c.Intn(120) {
		if o := chancedOp(c, p); modelFault(p, p.Ops, o) == api.OK {
			p.Ops = append(p.Ops, o)
		}
	}
	for range modelAround(p.Ops) {
		p.Ops = append(p.Ops, op(api.LimbEnd))
	}
	return p
}

// chancedRows answers rows by chance that a run takes.
func chancedRows(c *rand.Rand, bufs []api.Buf) [][]uint64 {
	l := make([][]uint64, len(bufs))
	for k, b := range bufs {
		for range b.Size {
			if b.Kind != api.BufTmp {
				l[k] = append(l[k], chancedWord(c))
			}
		}
	}
	return l
}

// spoil changes something of a program.
func spoil(c *rand.Rand, p *api.LimbProg) {
	if c.Intn(12) == 0 {
		p.Regs -= c.Intn(2)
		p.Bufs = p.Bufs[:c.Intn(len(p.Bufs)+1)]
	}
	if len(p.Ops) == 0 {
		return
	}
	k := c.Intn(len(p.Ops))
	o := &p.Ops[k]
	small := c.Intn(p.Regs+3) - 2
	switch c.Intn(12) {
	case 0:
		o.Kind = c.Intn(21) - 2
	case 1:
		o.D = small
	case 2:
		o.E = small
	case 3:
		o.A = small
	case 4:
		o.B = small
	case 5:
		o.C = small
	case 6:
		o.Buf = small
	case 7:
		o.Imm = chancedWord(c)
	case 8:
		*o = p.Ops[c.Intn(len(p.Ops))]
	case 9:
		p.Ops = slices.Delete(p.Ops, k, k+1)
	case 10:
		p.Ops = slices.Insert(p.Ops, k, p.Ops[c.Intn(len(p.Ops))])
	case 11:
		*o = chancedOp(c, *p)
	}
}
