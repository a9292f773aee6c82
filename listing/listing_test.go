package listing

import (
	"math"
	"math/rand"
	"slices"
	"strings"
	"testing"

	"keysmith/api"
	"keysmith/inst"
)

// told holds the instruction's text against what it should be, and the text's instruction against the instruction.
func told(t *testing.T, i api.Inst, want string) {
	t.Helper()
	if s, e := Inst(i); s != want || e != api.OK {
		t.Fatalf("Inst of %+v: %q, %d, not %q", i, s, e, want)
	}
	if back, e := Read(want); back != i || e != api.OK {
		t.Fatalf("Read of %q: %+v, %d, not %+v", want, back, e, i)
	}
}

func refused(t *testing.T, s string) {
	t.Helper()
	if i, e := Read(s); i != (api.Inst{}) || e != api.ErrText {
		t.Fatalf("Read of %q: %+v, %d", s, i, e)
	}
	if strings.Contains(s, "\n") {
		return
	}
	if l, n, e := ReadAll("ret\n" + s + "\nret\n"); len(l) != 0 || n != 1 || e != api.ErrText {
		t.Fatalf("ReadAll with %q: %+v, %d, %d", s, l, n, e)
	}
}

// places answers places: all registers and scales, numbers at the edges.
func places() []api.Mem {
	var l []api.Mem
	for base := range 16 {
		for _, disp := range []int64{0, 1, -1, 9, 10, -16, 127, -128, 1000000000, 1<<31 - 1, -1 << 31} {
			l = append(l, api.Mem{Base: base, Index: api.None, Scale: 1, Disp: disp})
			for index := range 16 {
				for scale := 1; scale <= 8 && index != api.RSP; scale *= 2 {
					l = append(l, api.Mem{Base: base, Index: index, Scale: scale, Disp: disp})
				}
			}
		}
	}
	return l
}

var numbers = []int64{0, 1, 2, 5, 9, 10, 31, 62, 63, 64, 99, 100, -1, -2, -9, -10, 1<<31 - 1, -1 << 31, 1 << 31, -1<<31 - 1, 1 << 32, 1<<62 + 7, 1<<63 - 1, -1<<63 + 1, -1 << 63}

// some answers instructions of the operation: all registers, places and numbers at the edges.
func some(op int) []api.Inst {
	var l []api.Inst
	add := func(i api.Inst) {
		if i.Op = op; inst.Check(i) == api.OK && !slices.Contains(l[max(0, len(l)-1):], i) {
			l = append(l, i)
		}
	}
	for d := range 16 {
		for _, n := range numbers {
			add(api.Inst{D: d, Imm: n})
		}
		for s := range 16 {
			for tt := range 16 {
				add(api.Inst{D: d, S: s, T: tt})
			}
		}
	}
	if op == api.OpLoad || op == api.OpStore || op == api.OpLea {
		for _, m := range places() {
			for r := range 16 {
				add(api.Inst{D: r, M: m})
				add(api.Inst{S: r, M: m})
			}
		}
	}
	return l
}

// sample answers some of each operation's instructions, so many at most.
func sample(most int) []api.Inst {
	var out []api.Inst
	for op := api.OpMov; op <= api.OpRet; op++ {
		l := some(op)
		for n := range min(most, len(l)) {
			out = append(out, l[n*len(l)/min(most, len(l))])
		}
	}
	return out
}

// P11.1: the chapter's examples, and each operation's text by hand
func TestTexts(t *testing.T) {
	told(t, api.Inst{Op: api.OpLoad, D: api.R9, M: api.Mem{Base: api.RSP, Index: api.RCX, Scale: 8, Disp: -16}}, "mov r9, [rsp+8*rcx-16]")
	told(t, api.Inst{Op: api.OpJnz, Imm: -5}, "jnz -5")
	told(t, api.Inst{Op: api.OpMov, D: api.RAX, S: api.RCX}, "mov rax, rcx")
	told(t, api.Inst{Op: api.OpMovImm, D: api.R10}, "mov r10, 0")
	told(t, api.Inst{Op: api.OpMovImm, D: api.RDX, Imm: math.MaxInt64}, "mov rdx, 9223372036854775807")
	told(t, api.Inst{Op: api.OpMovImm, D: api.RDX, Imm: math.MinInt64}, "mov rdx, -9223372036854775808")
	told(t, api.Inst{Op: api.OpStore, S: api.RAX, M: api.Mem{Base: api.RBX, Index: api.None, Scale: 1}}, "mov [rbx], rax")
	told(t, api.Inst{Op: api.OpStore, S: api.R15, M: api.Mem{Base: api.RBP, Index: api.R12, Scale: 4, Disp: 1<<31 - 1}}, "mov [rbp+4*r12+2147483647], r15")
	told(t, api.Inst{Op: api.OpLoad, D: api.RAX, M: api.Mem{Index: 0, Scale: 2}}, "mov rax, [rax+2*rax]")
	told(t, api.Inst{Op: api.OpLea, D: api.RCX, M: api.Mem{Base: api.R13, Index: api.R12, Scale: 1, Disp: 5}}, "lea rcx, [r13+1*r12+5]")
	told(t, api.Inst{Op: api.OpLea, D: api.RSP, M: api.Mem{Base: api.RSP, Index: api.None, Scale: 1, Disp: -1 << 31}}, "lea rsp, [rsp-2147483648]")
	told(t, api.Inst{Op: api.OpAdd, D: api.RSI, S: api.RDI}, "add rsi, rdi")
	told(t, api.Inst{Op: api.OpAdc, D: api.R8, S: api.R11}, "adc r8, r11")
	told(t, api.Inst{Op: api.OpSub, D: api.RAX}, "sub rax, rax")
	told(t, api.Inst{Op: api.OpSbb, D: api.RAX, S: api.RBP}, "sbb rax, rbp")
	told(t, api.Inst{Op: api.OpAnd, D: api.RAX, S: api.R14}, "and rax, r14")
	told(t, api.Inst{Op: api.OpOr, D: api.RBX, S: api.RAX}, "or rbx, rax")
	told(t, api.Inst{Op: api.OpXor, D: api.R13, S: api.R13}, "xor r13, r13")
	told(t, api.Inst{Op: api.OpCmp, D: api.RAX, S: api.RCX}, "cmp rax, rcx")
	told(t, api.Inst{Op: api.OpTest, D: api.RCX, S: api.RCX}, "test rcx, rcx")
	told(t, api.Inst{Op: api.OpAddImm, D: api.RAX, Imm: 7}, "add rax, 7")
	told(t, api.Inst{Op: api.OpAndImm, D: api.RSP, Imm: -64}, "and rsp, -64")
	told(t, api.Inst{Op: api.OpSubImm, D: api.RSP, Imm: 1<<31 - 1}, "sub rsp, 2147483647")
	told(t, api.Inst{Op: api.OpCmpImm, D: api.R9}, "cmp r9, 0")
	told(t, api.Inst{Op: api.OpMulx, D: api.RAX, S: api.RCX, T: api.RSI}, "mulx rax, rcx, rsi")
	told(t, api.Inst{Op: api.OpMulx, D: api.RDX, S: api.RAX, T: api.RDX}, "mulx rdx, rax, rdx")
	told(t, api.Inst{Op: api.OpAdcx, D: api.R9, S: api.RAX}, "adcx r9, rax")
	told(t, api.Inst{Op: api.OpAdox, D: api.RAX, S: api.R9}, "adox rax, r9")
	told(t, api.Inst{Op: api.OpNeg, D: api.RAX}, "neg rax")
	told(t, api.Inst{Op: api.OpNot, D: api.R12}, "not r12")
	told(t, api.Inst{Op: api.OpShl, D: api.RAX, Imm: 1}, "shl rax, 1")
	told(t, api.Inst{Op: api.OpShr, D: api.RDX, Imm: 63}, "shr rdx, 63")
	told(t, api.Inst{Op: api.OpCmovc, D: api.RAX, S: api.RDX}, "cmovc rax, rdx")
	told(t, api.Inst{Op: api.OpCmovnz, D: api.RAX, S: api.RDX}, "cmovnz rax, rdx")
	told(t, api.Inst{Op: api.OpPush, S: api.RAX}, "push rax")
	told(t, api.Inst{Op: api.OpPop, D: api.R8}, "pop r8")
	told(t, api.Inst{Op: api.OpJmp}, "jmp +0")
	told(t, api.Inst{Op: api.OpJmp, Imm: 1<<31 - 1}, "jmp +2147483647")
	told(t, api.Inst{Op: api.OpJc, Imm: -1 << 31}, "jc -2147483648")
	told(t, api.Inst{Op: api.OpRet}, "ret")
}

// P11.1, P11.2: each operation's instructions with all registers, places and numbers at the edges have the model's texts, and Read tells what each was.
func TestTextsOfAll(t *testing.T) {
	for op := api.OpMov; op <= api.OpRet; op++ {
		l := some(op)
		if len(l) == 0 {
			t.Fatal(op)
		}
		for _, i := range l {
			told(t, i, modelText(i))
		}
	}
}

// P11.2: unlike instructions have unlike texts.
func TestTextsAreUnlike(t *testing.T) {
	seen := map[string]api.Inst{}
	for op := api.OpMov; op <= api.OpRet; op++ {
		for _, i := range some(op) {
			s, _ := Inst(i)
			if other, there := seen[s]; there && other != i {
				t.Fatalf("%q: %+v and %+v", s, i, other)
			}
			seen[s] = i
		}
	}
}

// wrong answers instructions that may not be.
func wrong() []api.Inst {
	place := api.Mem{Base: api.RBX, Index: api.None, Scale: 1}
	return []api.Inst{
		{},
		{Op: -1},
		{Op: api.OpRet + 1},
		{Op: math.MaxInt},
		{Op: math.MinInt},
		{Op: api.OpMov, D: 16},
		{Op: api.OpMov, D: api.None},
		{Op: api.OpMov, S: 16},
		{Op: api.OpMov, T: 1},
		{Op: api.OpMov, Imm: 1},
		{Op: api.OpMov, M: place},
		{Op: api.OpMovImm, S: 1},
		{Op: api.OpAddImm, Imm: 1 << 31},
		{Op: api.OpAddImm, Imm: -1<<31 - 1},
		{Op: api.OpLoad},
		{Op: api.OpLoad, M: api.Mem{Base: api.RBX, Index: api.None}},
		{Op: api.OpLoad, M: api.Mem{Base: api.RBX, Index: api.None, Scale: 2}},
		{Op: api.OpLoad, M: api.Mem{Base: api.RBX, Index: api.RSP, Scale: 1}},
		{Op: api.OpLoad, M: api.Mem{Base: api.RBX, Index: api.RAX, Scale: 3}},
		{Op: api.OpLoad, M: api.Mem{Base: api.None, Index: api.None, Scale: 1}},
		{Op: api.OpLoad, M: api.Mem{Base: 16, Index: api.None, Scale: 1}},
		{Op: api.OpLoad, M: api.Mem{Base: api.RBX, Index: 16, Scale: 1}},
		{Op: api.OpLoad, M: api.Mem{Base: api.RBX, Index: api.None, Scale: 1, Disp: 1 << 31}},
		{Op: api.OpStore, D: 1, M: place},
		{Op: api.OpMulx, D: 1, S: 1},
		{Op: api.OpShl},
		{Op: api.OpShr, Imm: 64},
		{Op: api.OpShl, Imm: -1},
		{Op: api.OpPush, D: 1},
		{Op: api.OpPop, S: 1},
		{Op: api.OpJmp, Imm: 1 << 31},
		{Op: api.OpJnz, D: 1},
		{Op: api.OpRet, Imm: 1},
	}
}

// P11.1: inst.Check's error, and no text; in a list, too, wherever it stands
func TestWrongInstructions(t *testing.T) {
	for _, i := range wrong() {
		if s, e := Inst(i); s != "" || e != api.ErrArg || e != inst.Check(i) {
			t.Errorf("Inst of %+v: %q, %d", i, s, e)
		}
		ret := api.Inst{Op: api.OpRet}
		for _, l := range [][]api.Inst{{i}, {i, ret}, {ret, i}, {ret, i, ret}, {i, i}} {
			if s, e := All(l); s != "" || e != api.ErrArg {
				t.Errorf("All of %+v: %q, %d", l, s, e)
			}
		}
	}
}

// P11.1: what is no instruction's text, though near to one
func TestNoText(t *testing.T) {
	for _, s := range []string{
		"", " ", "  ", ",", ", ", "\n", "\t", "\x00", "\xff", "\u00a0", "foo", "RET", "Ret", "ret ", " ret", "ret\n", "ret\r", "ret\x00", "ret,", "ret, ", "ret rax", "ret +0", "retn", "re",
		"mov", "mov ", "mov  ", "mov rax", "mov rax,", "mov rax, ", "mov rax,rcx", "mov rax,  rcx", "mov  rax, rcx", "mov rax , rcx", "mov rax rcx", "mov rax, rcx ", "mov rax, rcx, rdx", "mov rax, rcx,", "mov rax, rcx, ", "mov, rax, rcx", "mov\trax, rcx", "mov rax,\trcx", "mov rax,\u00a0rcx", "mov , rcx", "mov , ",
		"mov eax, ecx", "mov RAX, rcx", "mov Rax, rcx", "mov rax, r16", "mov rax, r08", "mov rax, r0", "mov rax, r7", "mov rax, r", "mov rax, r-1", "mov 5, rax", "mov 5, 5", "movabs rax, 5",
		"mov rax, 05", "mov rax, 00", "mov rax, -0", "mov rax, +0", "mov rax, +5", "mov rax, -05", "mov rax, --5", "mov rax, +-5", "mov rax, 0x5", "mov rax, 5h", "mov rax, 1_0", "mov rax, 1e3", "mov rax, 5.0", "mov rax, -", "mov rax, +", "mov rax, \u0665", "mov rax, \uff15", "mov rax, 5 ", "mov rax, - 5",
		"mov rax, 9223372036854775808", "mov rax, -9223372036854775809", "mov rax, 18446744073709551615", "mov rax, 18446744073709551621", "mov rax, 99999999999999999999999999", "mov rax, 0000000000000000000000005",
		"mov rax, []", "mov rax, [", "mov rax, ]", "mov rax, [rbx", "mov rax, rbx]", "mov rax, [rbx]]", "mov rax, [[rbx]", "mov rax, [[rbx]]", "mov rax, [rbx] ", "mov rax, [ rbx]", "mov rax, [rbx ]", "mov rax, [rbx],", "mov rax, [rbx]x", "mov rax, [rbx+", "mov rax, [rbx+]", "mov rax, [rbx-]", "mov rax, [rbx*]",
		"mov rax, [rbx+0]", "mov rax, [rbx-0]", "mov rax, [rbx+05]", "mov rax, [rbx + 5]", "mov rax, [rbx++5]", "mov rax, [rbx+-5]", "mov rax, [rbx-+5]", "mov rax, [rbx--5]", "mov rax, [rbx5]", "mov rax, [5]", "mov rax, [+5]", "mov rax, [5+rbx]", "mov rax, [+rbx]", "mov rax, [-rbx]", "mov rax, [rbx+5+5]", "mov rax, [rbx+5-5]", "mov rax, [rbx+2147483648]", "mov rax, [rbx-2147483649]", "mov rax, [rbx+18446744073709551616]", "mov rax, [rbx+4294967301]",
		"mov rax, [rbx+rcx]", "mov rax, [rbx+rcx*2]", "mov rax, [rbx+0*rcx]", "mov rax, [rbx+3*rcx]", "mov rax, [rbx+16*rcx]", "mov rax, [rbx+02*rcx]", "mov rax, [rbx-2*rcx]", "mov rax, [rbx+-2*rcx]", "mov rax, [rbx+2rcx]", "mov rax, [rbx+2*]", "mov rax, [rbx+*rcx]", "mov rax, [rbx+2*2]", "mov rax, [rbx+2*rsp]", "mov rax, [rbx+1*rsp]", "mov rax, [rsp+1*rsp]", "mov rax, [rbx+2*rcx*2]", "mov rax, [rbx+2*rcx+2*rcx]", "mov rax, [2*rcx]", "mov rax, [+2*rcx]", "mov rax, [2*rcx+rbx]", "mov rax, [rbx+5+2*rcx]", "mov rax, [rbx+2*rcx+0]", "mov rax, [rbx+2* rcx]", "mov rax, [rbx+4294967298*rcx]", "mov rax, [rbx+18446744073709551618*rcx]", "mov rax, [rbx+1*none]", "mov rax, [rbx+1*]", "mov rax, [none]", "mov rax, [rbx, 5]", "mov rax, [r16]",
		"mov [rbx], [rcx]", "mov [rbx], 5", "mov [rbx]", "mov [rbx],rax", "mov [rbx], rax, rcx", "mov rax, rcx, [rbx]", "lea [rbx], rax", "lea rax, rbx", "lea rax, 5", "lea rax", "add rax, [rbx]", "add [rbx], rax", "test rax, [rbx]", "neg [rbx]", "push [rbx]", "jmp [rbx]",
		"add rax", "add rax, 2147483648", "sub rax, -2147483649", "cmp rax, 4294967296", "and rax, 4294967295", "or rax, 5", "xor rax, 1", "adc rax, 0", "sbb rax, 0", "test rax, 1", "cmovc rax, 1", "cmovc rax",
		"mulx rax, rcx", "mulx rax, rax, rcx", "mulx rax, rcx, 5", "mulx rax, rcx, rdx, rsi", "mulx rax, rcx, [rbx]", "mulx", "adcx rax", "adox rax, 1",
		"shl rax, 0", "shl rax, 64", "shl rax, -1", "shl rax, +1", "shr rax, 065", "shr rax, cl", "shr rax, rcx", "shl rax", "sar rax, 1",
		"neg", "neg rax, rcx", "neg 5", "not rax, 5", "push", "push 5", "push rax, rcx", "pop", "pop 5", "pop rax, rcx", "pushq rax",
		"jmp", "jmp ", "jmp 5", "jmp 0", "jmp -0", "jmp +", "jmp +05", "jmp + 5", "jmp ++5", "jmp +2147483648", "jmp -2147483649", "jmp rax", "jmp +5, +5", "jnz 7", "jc 0", "jz +5", "jne -5", "jb +5", "jmp\u00a0+5",
		"ret\nret", "mov rax, rcx\nret", "\nret", "mov rax, \xff", "mov rax, [rbx\xff]", "mov rax, [rbx+5\xff]", "mov rax, rcx\x00", "\xffret", "\ufeffret",
	} {
		refused(t, s)
	}
}

// P11.1: texts with a byte less, more, or another one: what is an instruction's text is that one's, all else none's.
func TestOtherTexts(t *testing.T) {
	g := grammars()
	const bytes = " ,[]+-*0123456789abcdhimprsx\n\x00\xff"
	check := func(s string) {
		want, ok := modelRead(g, s)
		if !ok {
			refused(t, s)
			return
		}
		told(t, want, s)
	}
	for _, i := range sample(3) {
		s := modelText(i)
		for at := range len(s) + 1 {
			for _, b := range []byte(bytes) {
				check(s[:at] + string([]byte{b}) + s[at:])
				if at < len(s) {
					check(s[:at] + string([]byte{b}) + s[at+1:])
				}
			}
			if at < len(s) {
				check(s[:at] + s[at+1:])
				check(s[:at])
				check(s[at:])
			}
		}
	}
}

// P11.1: texts of pieces put together by chance: as the model says.
func TestPiecesByChance(t *testing.T) {
	g := grammars()
	chance := rand.New(rand.NewSource(11))
	pieces := []string{" ", ", ", "[", "]", "+", "-", "*", "0", "1", "2", "8", "63", "2147483648", "-2147483648", "rax", "rsp", "r12", "[rbx]", "[rsp+8*rcx-16]", "[r8+1", "*rax]"}
	for _, p := range patterns {
		pieces = append(pieces, p.text[:strings.Index(p.text+" ", " ")]+" ")
	}
	right := 0
	for range 200000 {
		s := pieces[21+chance.Intn(len(pieces)-21)]
		for range chance.Intn(5) {
			s += pieces[chance.Intn(21)]
		}
		s = strings.TrimSuffix(s, " ")
		want, ok := modelRead(g, s)
		if !ok {
			refused(t, s)
			continue
		}
		right++
		told(t, want, s)
	}
	if right < 1000 {
		t.Error(right)
	}
}

// P11.1, P11.2: All of none, of one, of many; ReadAll of that
func TestAllAndReadAll(t *testing.T) {
	for _, l := range [][]api.Inst{nil, {}, {{Op: api.OpRet}}, {{Op: api.OpRet}, {Op: api.OpRet}}, sample(40)} {
		want := ""
		for _, i := range l {
			want += modelText(i) + "\n"
		}
		s, e := All(l)
		if s != want || e != api.OK {
			t.Fatalf("All of %d: %d bytes, not %d, %d", len(l), len(s), len(want), e)
		}
		back, n, e := ReadAll(s)
		if !slices.Equal(back, l) || n != len(l) || e != api.OK {
			t.Fatalf("ReadAll of %d: %d, %d, %d", len(l), len(back), n, e)
		}
	}
}

// P11.1: ReadAll tells the first line that can't be read, and nothing else.
func TestLinesThatCannotBeRead(t *testing.T) {
	for _, x := range []struct {
		s    string
		line int
	}{
		{"ret", 0},
		{"foo", 0},
		{"\n", 0},
		{"\n\n", 0},
		{"\nret\n", 0},
		{" \n", 0},
		{"\r\n", 0},
		{"ret\r\n", 0},
		{"ret\rret\n", 0},
		{"foo\n", 0},
		{"foo\nbar\n", 0},
		{"foo\nret", 0},
		{"ret\nret", 1},
		{"ret\nfoo", 1},
		{"ret\nfoo\n", 1},
		{"ret\n ", 1},
		{"ret\n\n", 1},
		{"ret\n\nret\n", 1},
		{"ret\nret \nret\n", 1},
		{"ret\nret\n\x00", 2},
		{"ret\npush r8\nmov rax, 05\nfoo\nret", 2},
		{"ret\npush r8\nmov rax, 5", 2},
	} {
		if l, n, e := ReadAll(x.s); len(l) != 0 || n != x.line || e != api.ErrText {
			t.Errorf("%q: %+v, %d, %d, not %d", x.s, l, n, e, x.line)
		}
	}
	lines := strings.Repeat("mov rax, [rsp+8]\n", 1000)
	for _, bad := range []string{"foo\n", "\n", "ret", "mov rax, [rsp+0]\n"} {
		if l, n, e := ReadAll(lines + bad); len(l) != 0 || n != 1000 || e != api.ErrText {
			t.Errorf("%q: %d, %d, %d", bad, len(l), n, e)
		}
	}
}

// T6: long texts that are none are refused, and soon.
func TestLongTexts(t *testing.T) {
	const many = 1 << 18
	for _, piece := range []string{"a", " ", ",", ", ", "+", "-1", "+1", "+1*rax", "[", "]", "0", "9", "rax", "rax, ", "\xff", "\u20ac"} {
		for _, ahead := range []string{"", "mov ", "mov rax, ", "mov rax, [rbx", "mov rax, [rbx+8*", "jmp +", "add rax, -"} {
			refused(t, ahead+strings.Repeat(piece, many))
			refused(t, ahead+strings.Repeat(piece, many)+"]")
		}
	}
}

// T6: any bytes are read or refused, just as the model says.
func TestAnyBytes(t *testing.T) {
	g := grammars()
	chance := rand.New(rand.NewSource(3))
	for range 20000 {
		b := make([]byte, chance.Intn(12))
		chance.Read(b)
		want, ok := modelRead(g, string(b))
		if i, e := Read(string(b)); i != want || (e == api.OK) != ok {
			t.Fatalf("%q: %+v, %d", b, i, e)
		}
		ReadAll(string(b) + "\n")
	}
}

// DOC.md's rule 3: a list is new each time, and what was handed in stays.
func TestNewLists(t *testing.T) {
	const s = "ret\npush r8\nret\n"
	one, _, _ := ReadAll(s)
	other, _, _ := ReadAll(s)
	one = append(one[:1], api.Inst{Op: api.OpNeg}, api.Inst{Op: api.OpNot}, api.Inst{Op: api.OpNot})
	one[0].Op = api.OpJmp
	if !slices.Equal(other, []api.Inst{{Op: api.OpRet}, {Op: api.OpPush, S: api.R8}, {Op: api.OpRet}}) {
		t.Error(other)
	}
	l := []api.Inst{{Op: api.OpRet}, {Op: api.OpPush, S: api.R8}, {}}
	if _, e := All(l[:2]); e != api.OK || !slices.Equal(l, []api.Inst{{Op: api.OpRet}, {Op: api.OpPush, S: api.R8}, {}}) {
		t.Error(l, e)
	}
}
