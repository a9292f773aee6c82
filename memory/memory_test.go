package memory

import (
	"bytes"
	"cmp"
	"math"
	"reflect"
	"slices"
	"strings"
	"testing"

	"keysmith/api"
)

const top = 1<<64 - 1

// region answers a region of n bytes, all different from their neighbours.
func region(base uint64, n int, write bool) api.Region {
	b := make([]byte, n)
	for i := range b {
		b[i] = byte(base) + byte(i)*7 + 1
	}
	return api.Region{Base: base, Bytes: b, Write: write}
}

// row answers so many regions of one byte, ten apart.
func row(n int) []api.Region {
	var l []api.Region
	for i := range n {
		l = append(l, region(uint64(10*i), 1, true))
	}
	return l
}

// kept answers a copy that shares nothing.
func kept(l []api.Region) []api.Region {
	l = slices.Clone(l)
	for i := range l {
		l[i].Bytes = bytes.Clone(l[i].Bytes)
	}
	return l
}

func sorted(l []api.Region) []api.Region {
	slices.SortFunc(l, func(a, b api.Region) int { return cmp.Compare(a.Base, b.Base) })
	return l
}

func same(a, b []api.Region) bool {
	return slices.EqualFunc(a, b, func(x, y api.Region) bool {
		return x.Base == y.Base && x.Write == y.Write && bytes.Equal(x.Bytes, y.Bytes)
	})
}

func made(t *testing.T, l ...api.Region) *Memory {
	t.Helper()
	m, e := New(l)
	if m == nil || e != api.OK {
		t.Fatalf("New: %v, %d", m, e)
	}
	return m
}

// checks are lists of regions, and whether they may be.
func checks() map[string]struct {
	l []api.Region
	e api.Errno
} {
	type check = struct {
		l []api.Region
		e api.Errno
	}
	r := func(base uint64, n int) api.Region { return region(base, n, base%2 == 0) }
	return map[string]check{
		"none":                          {nil, api.OK},
		"an empty list":                 {[]api.Region{}, api.OK},
		"one byte":                      {[]api.Region{r(5, 1)}, api.OK},
		"at 0":                          {[]api.Region{r(0, 1)}, api.OK},
		"the last byte of all":          {[]api.Region{r(top, 1)}, api.OK},
		"up to the last byte":           {[]api.Region{r(top-15, 16)}, api.OK},
		"both ends":                     {[]api.Region{r(top-15, 16), r(0, 16)}, api.OK},
		"the most bytes":                {[]api.Region{r(0, api.MaxBytes)}, api.OK},
		"the most bytes at the end":     {[]api.Region{r(1<<64-api.MaxBytes, api.MaxBytes)}, api.OK},
		"the most regions":              {row(8), api.OK},
		"the most regions, turned":      {reversed(row(8)), api.OK},
		"neighbours":                    {[]api.Region{r(100, 16), r(116, 16)}, api.OK},
		"neighbours, turned":            {[]api.Region{r(116, 16), r(100, 16)}, api.OK},
		"one between two":               {[]api.Region{r(100, 10), r(120, 10), r(110, 10)}, api.OK},
		"no bytes":                      {[]api.Region{r(5, 0)}, api.ErrArg},
		"nil bytes":                     {[]api.Region{{Base: 5, Write: true}}, api.ErrArg},
		"no bytes behind one":           {[]api.Region{r(5, 1), r(100, 0)}, api.ErrArg},
		"no bytes at the end":           {[]api.Region{r(top, 0)}, api.ErrArg},
		"no bytes at 0":                 {[]api.Region{r(0, 0)}, api.ErrArg},
		"round by one":                  {[]api.Region{r(top, 2)}, api.ErrArg},
		"round by one of sixteen":       {[]api.Region{r(top-14, 16)}, api.ErrArg},
		"round by most of its bytes":    {[]api.Region{r(top, api.MaxBytes)}, api.ErrArg},
		"round behind one":              {[]api.Region{r(100, 1), r(top, 2)}, api.ErrArg},
		"one twice":                     {[]api.Region{r(100, 1), r(100, 1)}, api.ErrArg},
		"one begins as another":         {[]api.Region{r(100, 2), r(100, 20)}, api.ErrArg},
		"a byte both":                   {[]api.Region{r(100, 16), r(115, 16)}, api.ErrArg},
		"a byte both, turned":           {[]api.Region{r(115, 16), r(100, 16)}, api.ErrArg},
		"one in another":                {[]api.Region{r(100, 16), r(104, 1)}, api.ErrArg},
		"one in another, turned":        {[]api.Region{r(104, 1), r(100, 16)}, api.ErrArg},
		"one round two":                 {[]api.Region{r(110, 1), r(100, 30), r(120, 1)}, api.ErrArg},
		"the first and the last both":   {append(row(7), r(0, 1)), api.ErrArg},
		"a byte both at the end of all": {[]api.Region{r(top, 1), r(top-15, 16)}, api.ErrArg},
		"too many":                      {row(9), api.ErrLong},
		"far too many":                  {row(1000), api.ErrLong},
		"too many without bytes":        {make([]api.Region, 9), api.ErrLong},
		"too many, one over another":    {append(row(8), r(0, 1)), api.ErrLong},
		"too long":                      {[]api.Region{r(0, api.MaxBytes+1)}, api.ErrLong},
		"the last one too long":         {append(row(7), r(100, api.MaxBytes+1)), api.ErrLong},
		"too long and round":            {[]api.Region{r(top, api.MaxBytes+1)}, api.ErrLong},
		"too long behind no bytes":      {[]api.Region{r(5, 0), r(100, api.MaxBytes+1)}, api.ErrLong},
		"too long behind one round":     {[]api.Region{r(top, 2), r(100, api.MaxBytes+1)}, api.ErrLong},
		"too long over another":         {[]api.Region{r(100, 1), r(50, api.MaxBytes+1)}, api.ErrLong},
		"too long behind two over both": {[]api.Region{r(100, 2), r(101, 2), r(200, api.MaxBytes+1)}, api.ErrLong},
	}
}

func reversed(l []api.Region) []api.Region {
	slices.Reverse(l)
	return l
}

// P4.1: Check, New's errors, and what a memory has that New answers
func TestCheckAndNew(t *testing.T) {
	for name, c := range checks() {
		before := kept(c.l)
		if e := Check(c.l); e != c.e {
			t.Errorf("Check of %s: %d, not %d", name, e, c.e)
		}
		m, e := New(c.l)
		if e != c.e || (m != nil) != (e == api.OK) {
			t.Errorf("New of %s: %v, %d, not %d", name, m != nil, e, c.e)
		}
		if !same(c.l, before) {
			t.Errorf("%s: what was handed in is changed", name)
		}
		if m == nil {
			continue
		}
		want := sorted(before)
		if got := m.Regions(); !same(got, want) {
			t.Errorf("Regions of %s: %d of them, not as handed in", name, len(got))
		}
	}
}

// P4.1: the document's own pair of regions, over one another by a byte
func TestNewOfTwoOverOneAnother(t *testing.T) {
	if m, e := New([]api.Region{region(1, 5, true), region(5, 5, true)}); m != nil || e != api.ErrArg {
		t.Error(m, e)
	}
	if m, e := New([]api.Region{region(1, 5, true), region(6, 5, true)}); m == nil || e != api.OK {
		t.Error(m, e)
	}
}

// worlds are lists of regions that may be: apart, side by side, at both ends of all addresses, many.
func worlds() [][]api.Region {
	return [][]api.Region{
		{region(100, 16, true)},
		{region(100, 16, false)},
		{region(100, 7, true)},
		{region(100, 8, true)},
		{region(100, 1, true), region(101, 1, true), region(102, 30, true)},
		{region(200, 9, false), region(100, 16, true)},
		{region(116, 16, true), region(100, 16, true)},
		{region(116, 16, true), region(100, 16, false), region(132, 16, false)},
		{region(0, 20, true), region(top-19, 20, true)},
		{region(0, 8, false), region(top-8, 9, true), region(8, 9, true)},
		{region(top-15, 16, false)},
		{region(top, 1, true), region(0, 1, true)},
		{
			region(80, 9, true), region(10, 8, false), region(60, 10, true), region(89, 9, true),
			region(18, 9, true), region(40, 16, true), region(70, 7, true), region(1<<63, 12, false),
		},
		nil,
	}
}

// model is a memory as a row of single bytes, against which all is held here.
type model []api.Region

// at answers the region with that address, and its byte's place; -1 if there is none.
func (l model) at(at uint64) (region, place int) {
	for i, r := range l {
		for j := range r.Bytes {
			if r.Base+uint64(j) == at {
				return i, j
			}
		}
	}
	return -1, 0
}

// room answers n bytes (one at least) from an address on, byte by byte, if one region has them all.
func (l model) room(at uint64, n int) (room []byte, write bool) {
	first, place := l.at(at)
	for i := range n {
		// No address of a byte that is asked for goes round.
		if r, _ := l.at(at + uint64(i)); r < 0 || r != first || at+uint64(i) < at {
			return nil, false
		}
	}
	return l[first].Bytes[place : place+n], l[first].Write
}

// addresses are those in the regions, and some around them.
func (l model) addresses() []uint64 {
	all := []uint64{0, 1, 7, 8, 1 << 32, 1 << 63, top - 8, top - 7, top - 6, top}
	for _, r := range l {
		for i := -9; i < len(r.Bytes)+9; i++ {
			all = append(all, r.Base+uint64(i))
		}
	}
	return all
}

func (l model) load(at uint64) (uint64, api.Errno) {
	room, _ := l.room(at, 8)
	if room == nil {
		return 0, api.ErrFault
	}
	v := uint64(0)
	for _, b := range slices.Backward(room) {
		v = v*256 + uint64(b)
	}
	return v, api.OK
}

func (l model) store(at, v uint64) api.Errno {
	room, write := l.room(at, 8)
	if !write {
		return api.ErrFault
	}
	for i := range room {
		room[i] = byte(v)
		v /= 256
	}
	return api.OK
}

// P4.2: Load, everywhere
func TestLoad(t *testing.T) {
	for i, l := range worlds() {
		m := made(t, l...)
		for _, at := range model(l).addresses() {
			v, e := m.Load(at)
			if want, wantE := model(l).load(at); v != want || e != wantE {
				t.Fatalf("world %d, at %d: %x, %d, not %x, %d", i, at, v, e, want, wantE)
			}
		}
	}
}

// P4.2, P4.3: Store, everywhere: it is loaded, no other byte changes, what can't be written neither
func TestStore(t *testing.T) {
	for i, l := range worlds() {
		m := made(t, l...)
		want := model(sorted(kept(l)))
		v := uint64(0x8899aabbccddeeff)
		for _, at := range want.addresses() {
			v = v*6364136223846793005 + 1442695040888963407
			e, wantE := m.Store(at, v), want.store(at, v)
			if e != wantE {
				t.Fatalf("world %d, at %d: %d, not %d", i, at, e, wantE)
			}
			if got, _ := m.Load(at); e == api.OK && got != v {
				t.Fatalf("world %d, at %d: %x was stored, %x loaded", i, at, v, got)
			}
			if !same(m.Regions(), want) {
				t.Fatalf("world %d, at %d: %v, not %v", i, at, m.Regions(), want)
			}
		}
	}
}

// P4.2: the least byte of a word stands first.
func TestWordsLieLeastByteFirst(t *testing.T) {
	m := made(t, api.Region{Base: 100, Bytes: []byte{9, 1, 2, 3, 4, 5, 6, 7, 0xff, 9}, Write: true})
	if v, e := m.Load(101); v != 0xff07060504030201 || e != api.OK {
		t.Errorf("%x %d", v, e)
	}
	for _, v := range []uint64{0, 1, 0xff, 0x100, 1 << 63, top, 0x0123456789abcdef} {
		if e := m.Store(101, v); e != api.OK {
			t.Error(e)
		}
		if got, e := m.Load(101); got != v || e != api.OK {
			t.Errorf("%x, %d, not %x", got, e, v)
		}
	}
	if s, e := m.Bytes(100, 10); s != "\x09\xef\xcd\xab\x89\x67\x45\x23\x01\x09" || e != api.OK {
		t.Errorf("%q %d", s, e)
	}
}

// P4.2: Bytes, everywhere, of no bytes too
func TestBytes(t *testing.T) {
	for i, l := range worlds() {
		m := made(t, l...)
		for _, at := range model(l).addresses() {
			for n := range 34 {
				want, wantE := "", api.ErrFault
				if room, _ := model(l).room(at, max(n, 1)); room != nil {
					want, wantE = string(room[:n]), api.OK
				}
				if s, e := m.Bytes(at, n); s != want || e != wantE {
					t.Fatalf("world %d, at %d, %d bytes: %q, %d, not %q, %d", i, at, n, s, e, want, wantE)
				}
			}
		}
	}
}

// P4.2: Bytes of wrong numbers of them: below 0 is told ahead of the address.
func TestBytesOfWrongNumbers(t *testing.T) {
	m := made(t, region(100, 16, true), region(top-15, 16, false))
	for _, c := range []struct {
		at uint64
		n  int
		e  api.Errno
	}{
		{100, -1, api.ErrArg}, {5, -1, api.ErrArg}, {100, math.MinInt, api.ErrArg}, {top, -16, api.ErrArg},
		{100, 17, api.ErrFault}, {115, 2, api.ErrFault}, {100, math.MaxInt, api.ErrFault}, {top, 2, api.ErrFault},
		{top, math.MaxInt, api.ErrFault}, {116, 0, api.ErrFault}, {99, 0, api.ErrFault}, {0, 0, api.ErrFault}, {0, 1, api.ErrFault},
		{100, 0, api.OK}, {115, 0, api.OK}, {top, 0, api.OK}, {top, 1, api.OK}, {top - 15, 16, api.OK}, {100, 16, api.OK},
	} {
		s, e := m.Bytes(c.at, c.n)
		if e != c.e || e == api.OK && len(s) != c.n || e != api.OK && s != "" {
			t.Errorf("%d bytes at %d: %q, %d, not %d", c.n, c.at, s, e, c.e)
		}
	}
}

// P4.2: a region of the most bytes, to its last one
func TestTheLongestRegion(t *testing.T) {
	m := made(t, region(0, api.MaxBytes, true), region(1<<64-api.MaxBytes, api.MaxBytes, true))
	for _, base := range []uint64{0, 1<<64 - api.MaxBytes} {
		end := base + api.MaxBytes
		if m.Store(end-8, 5) != api.OK || m.Store(end-7, 6) != api.ErrFault || m.Store(end-1, 6) != api.ErrFault {
			t.Errorf("Store at the end of the region at %d", base)
		}
		if v, e := m.Load(end - 8); v != 5 || e != api.OK {
			t.Error(v, e)
		}
		if s, e := m.Bytes(base, api.MaxBytes); len(s) != api.MaxBytes || !strings.HasSuffix(s, "\x05\x00\x00\x00\x00\x00\x00\x00") || e != api.OK {
			t.Error(len(s), e)
		}
		if s, e := m.Bytes(base, api.MaxBytes+1); s != "" || e != api.ErrFault {
			t.Error(len(s), e)
		}
	}
}

// P4.1, and DOC.md's rule 3: the bytes are the memory's own, the spare room of what is handed in is left alone.
func TestBytesAreTheMemorysOwn(t *testing.T) {
	room := []byte("0123456789abcdefROOM")
	l := []api.Region{{Base: 200, Bytes: room[:16], Write: true}, region(100, 8, true), region(1, 1, true)}
	m := made(t, l[:2]...)
	m.Store(200, top)
	m.Store(208, top)
	if string(room) != "0123456789abcdefROOM" || l[0].Base != 200 || l[1].Base != 100 || l[2].Base != 1 {
		t.Errorf("what was handed in is changed: %q, %v", room, l)
	}
	copy(room, "xxxxxxxxxxxxxxxxxxxx")
	l[0], l[1] = api.Region{}, api.Region{}
	if s, e := m.Bytes(200, 16); s != strings.Repeat("\xff", 16) || e != api.OK {
		t.Errorf("%q %d", s, e)
	}
	if !same(m.Regions()[:1], []api.Region{region(100, 8, true)}) {
		t.Error(m.Regions())
	}
}

// P4.1: one row of bytes may be handed in as two regions: each has its own.
func TestOneRowAsTwoRegions(t *testing.T) {
	b := make([]byte, 8)
	m := made(t, api.Region{Base: 100, Bytes: b, Write: true}, api.Region{Base: 200, Bytes: b, Write: true})
	m.Store(100, 7)
	if v, e := m.Load(200); v != 0 || e != api.OK {
		t.Error(v, e)
	}
}

// spoil writes over regions, over their bytes and over all spare room.
func spoil(l []api.Region) {
	l = l[:cap(l)]
	for i := range l {
		b := l[i].Bytes[:cap(l[i].Bytes)]
		for j := range b {
			b[j] = 0xee
		}
		l[i] = api.Region{}
	}
}

// P4.2: Regions are own ones, as they are now.
func TestRegionsAreOwn(t *testing.T) {
	m := made(t, region(132, 16, false), region(116, 16, true), region(100, 16, true))
	first := m.Regions()
	before := kept(first)
	m.Store(100, 42)
	if !same(first, before) {
		t.Error("regions that were told change with the memory")
	}
	now := m.Regions()
	if same(now, before) || now[0].Base != 100 || now[0].Bytes[0] != 42 || now[1].Base != 116 || !now[1].Write || now[2].Base != 132 || now[2].Write {
		t.Error(now)
	}
	want := kept(now)
	spoil(first)
	spoil(now)
	if got := m.Regions(); !same(got, want) {
		t.Error(got)
	}
}

// DOC.md's rule 3: the spare room of a region that is told is neither the memory's nor another region's.
func TestRegionsShareNoSpareRoom(t *testing.T) {
	m := made(t, region(100, 5, true), region(105, 9, true))
	l := m.Regions()
	want := kept(l)
	for i := range l {
		spare := l[i].Bytes[len(l[i].Bytes):cap(l[i].Bytes)]
		for j := range spare {
			spare[j] = 0xee
		}
	}
	if !same(l, want) || !same(m.Regions(), want) {
		t.Error(l, m.Regions())
	}
}

// P4.2: Clone is the same, and on its own, both ways.
func TestClone(t *testing.T) {
	for i, l := range worlds() {
		m := made(t, l...)
		if c := m.Clone(); c == m || !same(c.Regions(), m.Regions()) {
			t.Errorf("world %d: %v, not %v", i, c.Regions(), m.Regions())
		}
	}
	m := made(t, region(100, 16, true), region(200, 16, false))
	m.Store(104, 1)
	c := m.Clone()
	c.Store(104, 2)
	d := c.Clone()
	m.Store(104, 3)
	for i, x := range []*Memory{m, c, d} {
		if v, e := x.Load(104); v != []uint64{3, 2, 2}[i] || e != api.OK {
			t.Error(i, v, e)
		}
		if x.Store(200, 1) != api.ErrFault || x.Store(116, 1) != api.ErrFault {
			t.Error(i, "what can't be written was")
		}
	}
	if e := Check(m.Clone().Regions()); e != api.OK {
		t.Error(e)
	}
}

// P4.2: Store into what can't be written, or isn't there, changes nothing: not even the bytes that are there.
func TestFaultsChangeNothing(t *testing.T) {
	m := made(t, region(100, 16, true), region(116, 16, false), region(132, 4, true))
	before := m.Regions()
	for at := uint64(109); at < 150; at++ {
		if e := m.Store(at, 0); e != api.ErrFault {
			t.Errorf("at %d: %d", at, e)
		}
	}
	if !same(m.Regions(), before) {
		t.Error(m.Regions())
	}
}

// P4.2 and DOC.md's rule 7: an object that nobody made
func TestNoMemory(t *testing.T) {
	copied := *made(t, region(100, 16, true))
	for name, m := range map[string]*Memory{"nil": nil, "zero": {}, "copied": &copied} {
		if v, e := m.Load(100); v != 0 || e != api.ErrNil {
			t.Errorf("Load of %s: %d, %d", name, v, e)
		}
		if e := m.Store(100, 1); e != api.ErrNil {
			t.Errorf("Store of %s: %d", name, e)
		}
		for _, n := range []int{-1, 0, 1, 16} {
			if s, e := m.Bytes(100, n); s != "" || e != api.ErrNil {
				t.Errorf("Bytes of %s: %q, %d", name, s, e)
			}
		}
		if l := m.Regions(); len(l) != 0 {
			t.Errorf("Regions of %s: %v", name, l)
		}
		if c := m.Clone(); c != nil {
			t.Errorf("Clone of %s: %v", name, c)
		}
	}
}

// P4.2: a memory without regions is one: it is there, with nothing in it.
func TestMemoryWithoutRegions(t *testing.T) {
	m := made(t)
	for _, x := range []*Memory{m, m.Clone()} {
		_, load := x.Load(0)
		_, none := x.Bytes(0, 0)
		_, wrong := x.Bytes(0, -1)
		got := []api.Errno{load, x.Store(top, 0), none, wrong}
		if want := []api.Errno{api.ErrFault, api.ErrFault, api.ErrFault, api.ErrArg}; !reflect.DeepEqual(got, want) || len(x.Regions()) != 0 {
			t.Error(got, x.Regions())
		}
	}
}

// The document's examples of layer 4, and the README's.
func TestExamples(t *testing.T) {
	m := made(t, api.Region{Base: 100, Bytes: make([]byte, 16), Write: true})
	if m.Store(104, 258) != api.OK || m.Store(109, 258) != api.ErrFault {
		t.Error("Store")
	}
	if v, e := m.Load(104); v != 258 || e != api.OK {
		t.Error(v, e)
	}
	if s, e := m.Bytes(104, 3); s != "\x02\x01\x00" || e != api.OK {
		t.Errorf("%q %d", s, e)
	}
}
