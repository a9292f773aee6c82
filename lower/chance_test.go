package lower

import (
	"fmt"
	"math/rand"
	"slices"
	"strings"
	"testing"

	"keysmith/alloc"
	"keysmith/api"
	"keysmith/limb"
	"keysmith/secrecy"
)

// shapes tell what each kind makes and takes, by hand: registers by their letters (a: A or none), P for a limb of a buffer, n for any number, s for a shift's, t for a loop's.
var shapes = map[int]string{
	api.LimbConst: "Dn",
	api.LimbMove:  "DA",
	api.LimbAdd:   "DAB",
	api.LimbSub:   "DAB",
	api.LimbAnd:   "DAB",
	api.LimbOr:    "DAB",
	api.LimbXor:   "DAB",
	api.LimbShl:   "DAs",
	api.LimbShr:   "DAs",
	api.LimbMul:   "DEAB",
	api.LimbAdc:   "DEABC",
	api.LimbSbb:   "DEABC",
	api.LimbSel:   "DABC",
	api.LimbLoad:  "DaP",
	api.LimbStore: "aBP",
	api.LimbLoop:  "Dt",
	api.LimbEnd:   "",
}

func chancedKind(c *rand.Rand) int {
	switch c.Intn(5) {
	case 0:
		return api.LimbAdc + c.Intn(2)
	case 1:
		return api.LimbSel + c.Intn(5)
	case 2:
		return api.LimbLoad + c.Intn(2)
	}
	return 1 + c.Intn(17)
}

// counters is how many registers are left to loops, if there are more.
const counters = 4

// chancedOp answers an operation by chance; what the last one carried out it carries in as often as not.
func chancedOp(c *rand.Rand, p api.LimbProg) api.LimbOp {
	o := op(chancedKind(c))
	for _, letter := range shapes[o.Kind] {
		r := c.Intn(p.Regs)
		switch letter {
		case 'D':
			o.D = c.Intn(max(p.Regs-counters, 2))
		case 'E':
			o.E = c.Intn(max(p.Regs-counters, 2))
		case 'A':
			o.A = r
		case 'a':
			if c.Intn(3) > 0 {
				o.A = r
			}
		case 'B':
			o.B = r
		case 'C':
			o.C = r
		case 'P':
			o.Buf = c.Intn(len(p.Bufs))
			o.Imm = uint64(c.Intn(3))
		case 'n':
			o.Imm = edge(c)
		case 's':
			o.Imm = uint64(1 + c.Intn(63))
		case 't':
			// The last ones are left to loops, which make what was not made.
			o.D = p.Regs - 1 - c.Intn(min(p.Regs, counters))
			o.Imm = uint64(1 + c.Intn(3))
		}
	}
	if n := len(p.Ops); n > 0 && o.C >= 0 && p.Ops[n-1].E >= 0 && c.Intn(2) == 0 {
		o.C = p.Ops[n-1].E
		if o.E >= 0 && c.Intn(2) == 0 {
			o.E = o.C
		}
	}
	return o
}

// chanced answers a program by chance that has code, and rows of which limb.Run has no fault.
func chanced(c *rand.Rand, regs, ops int) (api.LimbProg, [][]uint64) {
	p := api.LimbProg{Regs: regs}
	var rows [][]uint64
	for range 1 + c.Intn(6) {
		b := api.Buf{Size: 1 + c.Intn(9), Kind: 1 + c.Intn(3), Secret: c.Intn(4) > 0}
		p.Bufs = append(p.Bufs, b)
		var l []uint64
		for range b.Size {
			l = append(l, edge(c))
			if c.Intn(2) == 0 {
				l[len(l)-1] = uint64(c.Intn(4)) - uint64(c.Intn(2))
			}
		}
		if b.Kind == api.BufTmp {
			l = nil
		}
		rows = append(rows, l)
	}
	for r := range regs - counters {
		if c.Intn(4) > 0 {
			p.Ops = append(p.Ops, constant(r, edge(c)))
		}
	}
	open := 0
	for range 3 * ops {
		q := p
		o := chancedOp(c, p)
		q.Ops = append(slices.Clone(p.Ops), o)
		if !runs(q, open, o.Kind, rows) {
			continue
		}
		p = q
		switch o.Kind {
		case api.LimbLoop:
			open++
		case api.LimbEnd:
			open--
		}
	}
	p.Ops = append(p.Ops, slices.Repeat(row(end), open)...)
	// What is held up to the end has to be kept somewhere.
	for r := range regs {
		q := p
		q.Ops = append(slices.Clone(p.Ops), store(-1, r, c.Intn(len(p.Bufs)), 0))
		if runs(q, 0, api.LimbStore, rows) {
			p = q
		}
	}
	return p, rows
}

// runs answers whether a program, with its open loops ended, has code and no fault, and is not too long for a test.
func runs(p api.LimbProg, open, kind int, rows [][]uint64) bool {
	switch kind {
	case api.LimbLoop:
		open++
	case api.LimbEnd:
		open--
	}
	if open < 0 {
		return false
	}
	p.Ops = append(slices.Clone(p.Ops), slices.Repeat(row(end), open)...)
	if _, e := secrecy.Check(p); e != api.OK || limb.Steps(p) > 3000 {
		return false
	}
	_, _, e := limb.Run(p, rows)
	return e == api.OK
}

// otherSecrets answers rows that agree on what is not secret.
func otherSecrets(c *rand.Rand, bufs []api.Buf, rows [][]uint64) [][]uint64 {
	l := copied(rows)
	for k, b := range bufs {
		if b.Secret {
			copy(l[k], limbs(c, len(l[k])))
		}
	}
	return l
}

// P15.3: programs by chance, with registers wherever they may be
func TestChanced(t *testing.T) {
	c := chance(9)
	slots, loops, carries := 0, 0, 0
	for k := range 400 {
		regs := 2 + c.Intn(12)
		if k%8 == 0 {
			regs = 20 + c.Intn(45)
		}
		p, rows := chanced(c, regs, 10+c.Intn(60))
		other := otherSecrets(c, p.Bufs, rows)
		both(t, p, rows, other)
		for _, few := range []int{0, 1, 3} {
			places, _ := alloc.Build(p, few)
			code := placed(t, p, places)
			if !slices.Equal(does(t, p, code, rows), does(t, p, code, other)) {
				t.Fatalf("what is seen of %+v in %v hangs on what is secret", p, places)
			}
		}
		places, _ := alloc.Build(p, pool)
		if alloc.Slots(places) > 0 {
			slots++
		}
		if limb.Steps(p) > 2*len(p.Ops) {
			loops++
		}
		carries += strings.Count(fmt.Sprint(emitterOf(p, places).known.handed), "true")

	}
	if slots < 50 || loops < 100 || carries < 100 {
		t.Error(slots, loops, carries)
	}
}
