package layout

import (
	"math"
	"math/rand"
	"slices"
	"strings"
	"testing"

	"keysmith/api"
	"keysmith/decode"
	"keysmith/encode"
)

var (
	ret = api.Line{Inst: api.Inst{Op: api.OpRet}}
	adc = api.Line{Inst: api.Inst{Op: api.OpAdc, D: api.RAX, S: api.RCX}}
)

func label(n int) api.Line      { return api.Line{Label: n} }
func jmp(to int) api.Line       { return api.Line{Inst: api.Inst{Op: api.OpJmp}, To: to} }
func jnz(to int) api.Line       { return api.Line{Inst: api.Inst{Op: api.OpJnz}, To: to} }
func jc(to int) api.Line        { return api.Line{Inst: api.Inst{Op: api.OpJc}, To: to} }
func chance(n int64) *rand.Rand { return rand.New(rand.NewSource(n)) }

// answers holds all that is told of lines against what should be: with an error the number alone, else the places and the bytes, too.
func answers(t *testing.T, l []api.Line, at int, err api.Errno, places []int, code string) {
	t.Helper()
	if n, e := Check(l); n != at || e != err {
		t.Fatalf("Check of %+v: %d, %d, not %d, %d", l, n, e, at, err)
	}
	if p, e := Places(l); !slices.Equal(p, places) || e != err || e != api.OK && p != nil {
		t.Fatalf("Places of %+v: %v, %d, not %v, %d", l, p, e, places, err)
	}
	if s, e := Bytes(l); s != code || e != err {
		t.Fatalf("Bytes of %+v: % x, %d, not % x, %d", l, s, e, code, err)
	}
}

func may(t *testing.T, l []api.Line, places []int, code string) {
	t.Helper()
	answers(t, l, len(l), api.OK, places, code)
}

func mayNot(t *testing.T, l []api.Line, at int, err api.Errno) {
	t.Helper()
	answers(t, l, at, err, nil, "")
}

// read holds what Lines tells against what it should.
func read(t *testing.T, code string, want []api.Line, err api.Errno) {
	t.Helper()
	if l, e := Lines(code); !slices.Equal(l, want) || e != err || e != api.OK && l != nil {
		t.Fatalf("Lines of % x: %+v, %d, not %+v, %d", code, l, e, want, err)
	}
}

// The document's example, and the README's
func TestExamples(t *testing.T) {
	may(t, []api.Line{label(1), jmp(1)}, []int{0, 0}, "\xe9\xfb\xff\xff\xff")
	read(t, "\xe9\xfb\xff\xff\xff", []api.Line{label(1), jmp(1)}, api.OK)
	sub := api.Line{Inst: api.Inst{Op: api.OpSubImm, D: api.RBX, Imm: 1}}
	code := "\x48\x81\xeb\x01\x00\x00\x00\x0f\x85\xf3\xff\xff\xff\xc3"
	may(t, []api.Line{label(7), sub, jnz(7), ret}, []int{0, 0, 7, 13}, code)
	read(t, code, []api.Line{label(1), sub, jnz(1), ret}, api.OK)
	mayNot(t, []api.Line{label(7), sub, jnz(8), ret}, 2, api.ErrNone)
}

// P10.1: none, and what is none
func TestNoLines(t *testing.T) {
	may(t, nil, nil, "")
	may(t, []api.Line{}, nil, "")
	mayNot(t, []api.Line{{}}, 0, api.ErrArg)
}

// P10.1: instructions without labels, labels without instructions, labels beside one another, of any numbers
func TestPlaces(t *testing.T) {
	may(t, []api.Line{ret, adc, ret}, []int{0, 1, 4}, "\xc3\x48\x11\xc8\xc3")
	may(t, []api.Line{label(3)}, []int{0}, "")
	may(t, []api.Line{label(math.MaxInt), label(1), label(2)}, []int{0, 0, 0}, "")
	may(t, []api.Line{adc, label(9), label(4), ret, label(5), label(6)}, []int{0, 3, 3, 3, 4, 4}, "\x48\x11\xc8\xc3")
}

// P10.1: jumps back, ahead, to themselves, to the next line, to the end; several to one label; labels that nothing goes to
func TestJumps(t *testing.T) {
	may(t, []api.Line{label(1), jnz(1)}, []int{0, 0}, "\x0f\x85\xfa\xff\xff\xff")
	may(t, []api.Line{label(1), jc(1)}, []int{0, 0}, "\x0f\x82\xfa\xff\xff\xff")
	may(t, []api.Line{jmp(1), label(1)}, []int{0, 5}, "\xe9\x00\x00\x00\x00")
	may(t, []api.Line{jc(1), label(2), label(1), ret}, []int{0, 6, 6, 6}, "\x0f\x82\x00\x00\x00\x00\xc3")
	may(t, []api.Line{jmp(math.MaxInt), adc, label(math.MaxInt)}, []int{0, 5, 8}, "\xe9\x03\x00\x00\x00\x48\x11\xc8")
	may(t, []api.Line{label(5), adc, jnz(8), label(7), jmp(5), ret, label(8), jc(7)}, []int{0, 0, 3, 9, 9, 14, 15, 15},
		"\x48\x11\xc8\x0f\x85\x06\x00\x00\x00\xe9\xf2\xff\xff\xff\xc3\x0f\x82\xf4\xff\xff\xff")
}

// P10.1: jumps by more than a byte, and by more than two, tell
func TestFarJumps(t *testing.T) {
	for n, want := range map[int]string{
		0: "\xe9\x00\x00\x00\x00", 1: "\xe9\x01\x00\x00\x00", 127: "\xe9\x7f\x00\x00\x00", 128: "\xe9\x80\x00\x00\x00",
		256: "\xe9\x00\x01\x00\x00", 70000: "\xe9\x70\x11\x01\x00",
	} {
		l := append([]api.Line{jmp(1)}, append(slices.Repeat([]api.Line{ret}, n), label(1))...)
		if s, e := Bytes(l); s != want+strings.Repeat("\xc3", n) || e != api.OK {
			t.Errorf("%d: % x.., %d", n, s[:min(5, len(s))], e)
		}
	}
	back := append([]api.Line{label(1)}, append(slices.Repeat([]api.Line{ret}, 70000), jmp(1))...)
	if s, e := Bytes(back); s != strings.Repeat("\xc3", 70000)+"\xe9\x8b\xee\xfe\xff" || e != api.OK {
		t.Error(len(s), e)
	}
}

// P10.1: ErrArg: what a line has that it should not
func TestWrongLines(t *testing.T) {
	with := func(x api.Line, change func(*api.Line)) api.Line {
		change(&x)
		return x
	}
	for name, x := range map[string]api.Line{
		"a label below 0":               label(-1),
		"a label far below 0":           label(math.MinInt),
		"a label below 0 with more":     {Label: -1, Inst: ret.Inst},
		"a label with an instruction":   {Label: 9, Inst: ret.Inst},
		"a label with a jump":           {Label: 9, Inst: api.Inst{Op: api.OpJmp}, To: 2},
		"a label with an operation":     {Label: 9, Inst: api.Inst{Op: -1}},
		"a label with a register":       {Label: 9, Inst: api.Inst{D: api.RCX}},
		"a label with another register": {Label: 9, Inst: api.Inst{S: api.RCX}},
		"a label with a third register": {Label: 9, Inst: api.Inst{T: api.RCX}},
		"a label with a place":          {Label: 9, Inst: api.Inst{M: api.Mem{Index: api.None, Scale: 1}}},
		"a label with a number":         {Label: 9, Inst: api.Inst{Imm: 1}},
		"a label that goes to one":      {Label: 9, To: 2},
		"a label that goes to itself":   {Label: 9, To: 9},
		"a label that goes below 0":     {Label: 9, To: -1},
		"nothing":                       {},
		"nothing that goes to a label":  {To: 2},
		"no operation":                  {Inst: api.Inst{Op: api.OpRet + 1}},
		"an instruction with too much":  with(ret, func(x *api.Line) { x.Inst.Imm = 1 }),
		"no register":                   with(adc, func(x *api.Line) { x.Inst.D = 16 }),
		"no jump, and goes to a label":  with(adc, func(x *api.Line) { x.To = 2 }),
		"no jump, and goes to none":     with(ret, func(x *api.Line) { x.To = 7 }),
		"no jump, and goes below 0":     with(ret, func(x *api.Line) { x.To = -1 }),
		"a jump with a number":          with(jmp(2), func(x *api.Line) { x.Inst.Imm = 1 }),
		"a jump with a number below 0":  with(jc(2), func(x *api.Line) { x.Inst.Imm = -5 }),
		"a jump with too great a one":   with(jnz(2), func(x *api.Line) { x.Inst.Imm = 1 << 40 }),
		"a jump with a number, to none": with(jnz(7), func(x *api.Line) { x.Inst.Imm = 1 }),
		"a jump by its number alone":    {Inst: api.Inst{Op: api.OpJmp, Imm: -5}},
		"a jump with a register":        with(jmp(2), func(x *api.Line) { x.Inst.S = 1 }),
	} {
		t.Run(name, func(t *testing.T) {
			mayNot(t, []api.Line{x, label(2)}, 0, api.ErrArg)
			mayNot(t, []api.Line{ret, label(2), x, jmp(7)}, 2, api.ErrArg)
			mayNot(t, []api.Line{label(2), jmp(2), ret, x}, 3, api.ErrArg)
		})
	}
}

// P10.1: ErrThere, of the second line that tells a label; with more it is ErrArg.
func TestLabelsThere(t *testing.T) {
	mayNot(t, []api.Line{label(1), label(1)}, 1, api.ErrThere)
	mayNot(t, []api.Line{label(2), label(1), jmp(1), ret, label(1), label(2)}, 4, api.ErrThere)
	mayNot(t, []api.Line{jmp(1), label(1), ret, label(1), label(1)}, 3, api.ErrThere)
	mayNot(t, []api.Line{label(math.MaxInt), ret, label(math.MaxInt)}, 2, api.ErrThere)
	mayNot(t, []api.Line{label(1), {Label: 1, To: 1}}, 1, api.ErrArg)
	mayNot(t, []api.Line{{Label: 1, To: 1}, label(1)}, 0, api.ErrArg)
	mayNot(t, []api.Line{label(1), {Label: 1, Inst: ret.Inst}}, 1, api.ErrArg)
}

// P10.1: ErrNone of a jump to no line's label: 0, which instructions have, and what is below 0 are none.
func TestLabelsNone(t *testing.T) {
	for _, jump := range []func(int) api.Line{jmp, jnz, jc} {
		for _, to := range []int{0, 2, -1, 4, math.MaxInt, math.MinInt} {
			mayNot(t, []api.Line{jump(to)}, 0, api.ErrNone)
			mayNot(t, []api.Line{label(1), label(3), ret, jump(3), jump(to), ret}, 4, api.ErrNone)
		}
		mayNot(t, []api.Line{ret, jump(-1), label(-1)}, 1, api.ErrNone)
	}
}

// P10.1: the first line that may not be counts, whatever is wrong with those behind it.
func TestFirstLineCounts(t *testing.T) {
	wrong := map[api.Errno]api.Line{api.ErrArg: {}, api.ErrThere: label(1), api.ErrNone: jmp(9)}
	for err, first := range wrong {
		for _, second := range wrong {
			mayNot(t, []api.Line{label(1), first, second}, 1, err)
			mayNot(t, []api.Line{label(1), jmp(1), ret, first, ret, second, first}, 3, err)
		}
	}
	// What it goes to is a line's label, though that line has more.
	mayNot(t, []api.Line{jmp(2), {Label: 2, To: 1}}, 1, api.ErrArg)
}

// P10.1: ErrFull of more than 2^20 bytes, behind all other errors; labels have none.
func TestFull(t *testing.T) {
	most := slices.Repeat([]api.Line{ret}, 1<<20-6)
	most = append([]api.Line{label(1), jnz(1)}, most...)
	most = append(most, label(2), label(3))
	if at, e := Check(most); at != 1<<20-2 || e != api.OK {
		t.Fatal(at, e)
	}
	if s, e := Bytes(most); s != "\x0f\x85\xfa\xff\xff\xff"+strings.Repeat("\xc3", 1<<20-6) || e != api.OK {
		t.Fatal(len(s), e)
	}
	if p, e := Places(most); len(p) != len(most) || p[len(p)-1] != 1<<20 || p[5] != 9 || e != api.OK {
		t.Fatal(len(p), e)
	}
	for n := range 3 {
		more := slices.Concat(most, slices.Repeat([]api.Line{ret}, n+1), slices.Repeat([]api.Line{adc}, 100*n))
		if at, e := Check(more); at != len(more) || e != api.ErrFull {
			t.Error(at, e)
		}
		if s, e := Bytes(more); s != "" || e != api.ErrFull {
			t.Error(len(s), e)
		}
		if p, e := Places(more); p != nil || e != api.ErrFull {
			t.Error(len(p), e)
		}
		for err, wrong := range map[api.Errno]api.Line{api.ErrArg: {}, api.ErrThere: label(3), api.ErrNone: jmp(4)} {
			if at, e := Check(append(more, wrong)); at != len(more) || e != err {
				t.Error(at, e)
			}
		}
	}
}

// P10.1: lines by chance, against a plain model; most of them may be, others are spoilt
func TestAnyLines(t *testing.T) {
	c, ends := chance(10), map[api.Errno]int{}
	for range 30000 {
		l := chanced(c)
		for range c.Intn(3) {
			spoil(c, l)
		}
		at, e := modelCheck(l)
		ends[e]++
		if e != api.OK {
			mayNot(t, l, at, e)
			continue
		}
		var places []int
		for k := range l {
			places = append(places, modelPlace(l, k))
		}
		may(t, l, places, modelBytes(l))
	}
	for _, e := range []api.Errno{api.OK, api.ErrArg, api.ErrThere, api.ErrNone} {
		if ends[e] < 500 {
			t.Error("chance makes too little of one end:", ends)
		}
	}
}

// P10.2: code without jumps has no labels.
func TestLinesWithoutJumps(t *testing.T) {
	read(t, "", nil, api.OK)
	read(t, "\xc3", []api.Line{ret}, api.OK)
	read(t, "\xc3\x48\x11\xc8\xc3", []api.Line{ret, adc, ret}, api.OK)
}

// P10.2: labels are numbered by their places, whichever jump comes first; each once, ahead of its instruction, or at the end.
func TestLinesWithJumps(t *testing.T) {
	read(t, "\xe9\x00\x00\x00\x00", []api.Line{jmp(1), label(1)}, api.OK)
	read(t, "\x0f\x82\x00\x00\x00\x00\xc3", []api.Line{jc(1), label(1), ret}, api.OK)
	read(t, "\xc3\x0f\x85\x01\x00\x00\x00\xc3", []api.Line{ret, jnz(1), ret, label(1)}, api.OK)
	read(t, "\xe9\x05\x00\x00\x00\xe9\xf6\xff\xff\xff", []api.Line{label(1), jmp(2), jmp(1), label(2)}, api.OK)
	read(t, "\x0f\x85\x07\x00\x00\x00\xc3\x0f\x82\xf3\xff\xff\xff\xe9\x01\x00\x00\x00\xc3\xe9\xf5\xff\xff\xff",
		[]api.Line{label(1), jnz(2), ret, jc(1), label(2), jmp(3), ret, label(3), jmp(2)}, api.OK)
	read(t, "\xe9\x05\x00\x00\x00\xe9\x00\x00\x00\x00\xc3\xe9\xfa\xff\xff\xff", []api.Line{jmp(1), jmp(1), label(1), ret, jmp(1)}, api.OK)
	read(t, "\xe9\x05\x00\x00\x00\xe9\x00\x00\x00\x00\xc3\xe9\xfb\xff\xff\xff", []api.Line{jmp(1), jmp(1), label(1), ret, label(2), jmp(2)}, api.OK)
}

// P10.2: ErrBad of jumps into an instruction, ahead of the code, behind its end
func TestJumpsToNoInstruction(t *testing.T) {
	for by := -300; by < 300; by++ {
		code := "\x48\x11\xc8\xe9" + string([]byte{byte(by), byte(by >> 8), byte(by >> 16), byte(by >> 24)}) + "\x48\x11\xc8"
		numbers := map[int][]api.Line{
			-8: {label(1), adc, jmp(1), adc},
			-5: {adc, label(1), jmp(1), adc},
			0:  {adc, jmp(1), label(1), adc},
			3:  {adc, jmp(1), adc, label(1)},
		}
		if l, there := numbers[by]; there {
			read(t, code, l, api.OK)
		} else {
			read(t, code, nil, api.ErrBad)
		}
	}
	for _, code := range []string{
		"\xe9\xff\xff\xff\x7f", "\xe9\x00\x00\x00\x80", "\x0f\x85\xff\xff\xff\x7f", "\x0f\x82\x00\x00\x00\x80",
		"\xe9\x01\x00\x00\x00", "\xe9\xfa\xff\xff\xff", "\xc3\xe9\xf9\xff\xff\xff",
		"\xe9\xfb\xff\xff\xff\xe9\xfc\xff\xff\xff\xe9\xfb\xff\xff\xff", "\xe9\xfb\xff\xff\xff\xc3\x0f\x85\x01\x00\x00\x00",
	} {
		read(t, code, nil, api.ErrBad)
	}
}

// P10.2: decode.All's error, wherever it is
func TestLinesOfNoCode(t *testing.T) {
	for _, code := range []string{"\x00", "\x48", "\x48\x8b", "\xc3\x00\xc3", "\xe9", "\xe9\x00\x00\x00", "\xe9\x00\x00\x00\x00\x00", "\x0f\x84\x00\x00\x00\x00", "\xc3\xeb\x00"} {
		_, _, want := decode.All(code)
		if want == api.OK {
			t.Fatalf("% x", code)
		}
		read(t, code, nil, want)
	}
}

// P10.2, P10.3: code by chance, against a plain model; its lines' bytes are the code.
func TestAnyCode(t *testing.T) {
	c, bad := chance(102), 0
	for range 30000 {
		code := chancedCode(c, true)
		if c.Intn(20) == 0 {
			b := append([]byte(code), 0)
			b[c.Intn(len(b))] = byte(c.Int())
			code = string(b)
		}
		want, ok := modelLines(code)
		if !ok {
			bad++
			read(t, code, nil, api.ErrBad)
			continue
		}
		read(t, code, want, api.OK)
		back(t, code)
	}
	if bad < 1000 || bad > 20000 {
		t.Error("chance makes too little of one end:", bad)
	}
}

// back looks whether the bytes of the code's lines are the code.
func back(t *testing.T, code string) {
	t.Helper()
	l, e := Lines(code)
	if e != api.OK {
		t.Fatalf("Lines of % x: %d", code, e)
	}
	if s, e := Bytes(l); s != code || e != api.OK {
		t.Fatalf("Bytes of %+v: % x, %d, not % x", l, s, e, code)
	}
}

// P10.3: of each operation, of code that is as long as it may be; lines that are as Lines tells them are told again.
func TestBack(t *testing.T) {
	c := chance(103)
	for range 5000 {
		back(t, chancedCode(c, false))
	}
	for op := api.OpMov; op <= api.OpRet; op++ {
		for _, i := range []api.Inst{{Op: op}, {Op: op, S: 1}, {Op: op, Imm: 1}, {Op: op, M: api.Mem{Base: 3, Index: api.None, Scale: 1}}} {
			if s, e := encode.All([]api.Inst{{Op: api.OpRet}, i, {Op: api.OpRet}}); e == api.OK && (i.Imm == 0 || op < api.OpJmp) {
				back(t, s)
			}
		}
	}
	back(t, strings.Repeat("\xc3", 1<<20))
	back(t, "\xe9"+"\xf6\xff\x0f\x00"+strings.Repeat("\xc3", 1<<20-10)+"\xe9\x00\x00\xf0\xff")
	for range 5000 {
		l := chanced(c)
		code, _ := Bytes(l)
		again, e := Lines(code)
		if e != api.OK {
			t.Fatalf("%+v: % x, %d", l, code, e)
		}
		if s, e := Bytes(again); s != code || e != api.OK {
			t.Fatalf("%+v: % x, %+v, % x, %d", l, code, again, s, e)
		}
		read(t, code, again, api.OK)
	}
}

// P10.2: how long code may be is not asked of Lines; its lines are too many bytes then.
func TestLinesOfLongCode(t *testing.T) {
	l, e := Lines(strings.Repeat("\xc3", 1<<20+1))
	if len(l) != 1<<20+1 || e != api.OK {
		t.Fatal(len(l), e)
	}
	if at, e := Check(l); at != 1<<20+1 || e != api.ErrFull {
		t.Error(at, e)
	}
}

// DOC.md's rule 3: what is handed in stays, its spare room too; answers are new memory.
func TestNewMemory(t *testing.T) {
	whole := []api.Line{label(3), adc, jmp(3), ret, jnz(7), label(8), {To: 5}}
	want := slices.Clone(whole)
	l := whole[:4]
	code, e := Bytes(l)
	places, _ := Places(l)
	if at, _ := Check(l); at != 4 || e != api.OK || !slices.Equal(whole, want) {
		t.Error(at, e, whole)
	}
	other, _ := Places(l)
	clear(other[:cap(other)])
	if !slices.Equal(places, []int{0, 0, 3, 8}) || !slices.Equal(whole, want) {
		t.Error(places, whole)
	}
	one, _ := Lines(code)
	two, _ := Lines(code)
	clear(two[:cap(two)])
	if !slices.Equal(one, []api.Line{label(1), adc, jmp(1), ret}) {
		t.Error(one)
	}
}
