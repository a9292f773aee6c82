package secrecy

import (
	"slices"
	"testing"

	"keysmith/api"
	"keysmith/limb"
)

// agrees answers whether two runs of rows that are Public see the same, have the same error, and agree on what is not secret.
func agrees(t *testing.T, p api.LimbProg, a, b [][]uint64) bool {
	t.Helper()
	if !Public(p, a, b) {
		t.Fatalf("%v and %v are not Public of %+v", a, b, p)
	}
	outA, seenA, eA := limb.Run(p, a)
	outB, seenB, eB := limb.Run(p, b)
	if eA != eB || !slices.Equal(seenA, seenB) || len(outA) != len(outB) {
		return false
	}
	for k := range outA {
		if !p.Bufs[k].Secret && !slices.Equal(outA[k], outB[k]) {
			return false
		}
	}
	return true
}

// showing answers the program with each register that is made in the end and not secret stored where all can see it.
func showing(p api.LimbProg) api.LimbProg {
	p = limb.Copy(p)
	p.Bufs = append(p.Bufs, api.Buf{Size: 16, Kind: api.BufOut})
	for r, is := range Secret(p) {
		q := p
		q.Ops = append(slices.Clone(p.Ops), store(-1, r, len(p.Bufs)-1, uint64(r)))
		if _, e := limb.Check(q); !is && e == api.OK {
			p = q
		}
	}
	return p
}

// P13.2: what keeps its secrets shows none, in runs with faults, too
func TestRunsAgree(t *testing.T) {
	c := chance(15)
	faults, homes := 0, 0
	for range 2000 {
		p := showing(chanced(c, true))
		a := chancedRows(c, p.Bufs)
		b := otherSecrets(c, p.Bufs, a)
		_, _, fault := limb.Run(p, a)
		if _, e := Check(p); e != api.OK {
			t.Fatalf("Check of %+v: %d", p, e)
		}
		if !agrees(t, p, a, b) {
			t.Fatalf("runs of %+v with %v and %v don't agree", p, a, b)
		}
		if fault == api.OK {
			homes++
		} else {
			faults++
		}
	}
	if faults < 100 || homes < 300 {
		t.Error(faults, homes)
	}
}

// P13.2: runs that are too long have one error, whatever is handed in
func TestLongRunsAgree(t *testing.T) {
	p := program(load(1, -1, secretIn, 0), loop(0, 1<<20), loop(2, 1<<20), store(-1, 1, secretOut, 0), end, end)
	keeps(t, p, 1)
	b := given()
	b[secretIn] = []uint64{7, 8, 9}
	if _, _, e := limb.Run(p, b); e != api.ErrFull || !agrees(t, p, given(), b) {
		t.Error(e)
	}
}

// P13.2: what Check forbids would be seen: in a place, in a fault, in a public buffer
func TestRunsOfWhatTells(t *testing.T) {
	one := row(load(0, -1, secretIn, 0))
	b := given()
	for _, c := range []struct {
		l     []api.LimbOp
		limbs [2]uint64
	}{
		{row(load(1, 0, publicIn, 0)), [2]uint64{1, 2}},
		{row(load(1, 0, secretIn, 0)), [2]uint64{1, 2}},
		{row(load(1, 0, publicIn, 0)), [2]uint64{1, 3}},
		{row(store(0, 0, secretOut, 0)), [2]uint64{1, 2}},
		{row(store(-1, 0, publicOut, 0)), [2]uint64{1, 2}},
		{row(move(1, 0), store(-1, 1, publicTmp, 0)), [2]uint64{1, 2}},
	} {
		a := given()
		a[secretIn][0], b[secretIn][0] = c.limbs[0], c.limbs[1]
		p := program(slices.Concat(one, c.l)...)
		if _, e := Check(p); e != api.ErrSecret || agrees(t, p, a, b) {
			t.Errorf("%+v: %d, though runs agree", p, e)
		}
	}
}
