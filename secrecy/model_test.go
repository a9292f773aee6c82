package secrecy

import (
	"math/rand"
	"slices"
	"strings"

	"keysmith/api"
	"keysmith/limb"
)

// shapes tell what each kind makes and takes, by hand: registers by their letters (a: A or none), P for a limb of a buffer, n for any number, s for a shift's, t for a loop's.
var shapes = map[int]string{
	api.LimbConst: "Dn",
	api.LimbMove:  "DA",
	api.LimbAdd:   "DAB",
	api.LimbSub:   "DAB",
	api.LimbAnd:   "DAB",
	api.LimbOr:    "DAB",
	api.LimbXor:   "DAB",
	api.LimbShl:   "DAs",
	api.LimbShr:   "DAs",
	api.LimbMul:   "DEAB",
	api.LimbAdc:   "DEABC",
	api.LimbSbb:   "DEABC",
	api.LimbSel:   "DABC",
	api.LimbLoad:  "DaP",
	api.LimbStore: "aBP",
	api.LimbLoop:  "Dt",
	api.LimbEnd:   "",
}

// registers answers those of an operation that its shape tells by these letters.
func registers(o api.LimbOp, letters string) []int {
	var l []int
	for _, letter := range shapes[o.Kind] {
		if !strings.ContainsRune(letters, letter) {
			continue
		}
		r := map[rune]int{'D': o.D, 'E': o.E, 'A': o.A, 'a': o.A, 'B': o.B, 'C': o.C}[letter]
		if r >= 0 {
			l = append(l, r)
		}
	}
	return l
}

// modelSecret answers whether a register is secret, by going back from it: to each operation that makes it, to what that takes, and on.
func modelSecret(p api.LimbProg, r int, gone map[int]struct{}) bool {
	if _, there := gone[r]; there {
		return false
	}
	gone[r] = struct{}{}
	for _, o := range p.Ops {
		if !slices.Contains(registers(o, "DE"), r) {
			continue
		}
		if o.Kind == api.LimbLoad && p.Bufs[o.Buf].Secret {
			return true
		}
		for _, took := range registers(o, "AaBC") {
			if modelSecret(p, took, gone) {
				return true
			}
		}
	}
	return false
}

func modelSecrets(p api.LimbProg) []bool {
	var l []bool
	for r := range p.Regs {
		l = append(l, modelSecret(p, r, map[int]struct{}{}))
	}
	return l
}

// modelCheck is Check of a program that may be.
func modelCheck(p api.LimbProg) (int, api.Errno) {
	secret := modelSecrets(p)
	for k, o := range p.Ops {
		wrong := false
		switch o.Kind {
		case api.LimbLoad:
			wrong = o.A >= 0 && secret[o.A]
		case api.LimbStore:
			wrong = o.A >= 0 && secret[o.A] || !p.Bufs[o.Buf].Secret && secret[o.B]
		case api.LimbLoop:
			wrong = secret[o.D]
		}
		if wrong {
			return k, api.ErrSecret
		}
	}
	return len(p.Ops), api.OK
}

// Programs by chance

func chance(n int64) *rand.Rand { return rand.New(rand.NewSource(n)) }

func chancedOp(c *rand.Rand, p api.LimbProg) api.LimbOp {
	o := op(1 + c.Intn(17))
	for _, letter := range shapes[o.Kind] {
		r := c.Intn(p.Regs)
		switch letter {
		case 'D':
			o.D = r
		case 'E':
			o.E = r
		case 'A':
			o.A = r
		case 'a':
			if c.Intn(3) == 0 {
				o.A = r
			}
		case 'B':
			o.B = r
		case 'C':
			o.C = r
		case 'P':
			o.Buf = c.Intn(len(p.Bufs))
			o.Imm = uint64(c.Intn(3))
		case 'n':
			o.Imm = uint64(c.Intn(4))
		case 's':
			o.Imm = uint64(1 + c.Intn(63))
		case 't':
			o.Imm = uint64(1 + c.Intn(3))
		}
	}
	return o
}

// chanced answers a program by chance that may be. If it is to keep its secrets, there is nothing in it that the model refuses.
func chanced(c *rand.Rand, keeps bool) api.LimbProg {
	p := api.LimbProg{Regs: 1 + c.Intn(9)}
	for range 1 + c.Intn(5) {
		p.Bufs = append(p.Bufs, api.Buf{Size: 1 + c.Intn(6), Kind: 1 + c.Intn(3), Secret: c.Intn(2) == 0})
	}
	open := 0
	for range c.Intn(90) {
		o := chancedOp(c, p)
		q := p
		q.Ops = append(slices.Clone(p.Ops), o)
		if at, _ := limb.Check(q); at < len(q.Ops) {
			continue
		}
		if _, e := modelCheck(q); keeps && e != api.OK {
			continue
		}
		p = q
		switch o.Kind {
		case api.LimbLoop:
			open++
		case api.LimbEnd:
			open--
		}
	}
	p.Ops = append(p.Ops, slices.Repeat(row(end), open)...)
	return p
}

// chancedRows answers rows by chance that a run takes; most limbs are small, so that places hang on them.
func chancedRows(c *rand.Rand, bufs []api.Buf) [][]uint64 {
	l := make([][]uint64, len(bufs))
	for k, b := range bufs {
		if b.Kind == api.BufTmp {
			continue
		}
		for range b.Size {
			l[k] = append(l[k], chancedLimb(c))
		}
	}
	return l
}

func chancedLimb(c *rand.Rand) uint64 {
	if c.Intn(4) == 0 {
		return c.Uint64()
	}
	return uint64(c.Intn(5)) - uint64(c.Intn(2))
}

// otherSecrets answers rows that agree on what is not secret.
func otherSecrets(c *rand.Rand, bufs []api.Buf, rows [][]uint64) [][]uint64 {
	l := copied(rows)
	for k, b := range bufs {
		if b.Secret {
			for i := range l[k] {
				l[k][i] = chancedLimb(c)
			}
		}
	}
	return l
}

func copied(rows [][]uint64) [][]uint64 {
	l := make([][]uint64, len(rows))
	for k, r := range rows {
		l[k] = slices.Clone(r)
	}
	return l
}
