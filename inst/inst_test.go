package inst

import (
	"fmt"
	"math"
	"slices"
	"testing"

	"keysmith/api"
)

// row is what the document tells of an operation, by hand: which fields it has (D, S, T; M; N any number, W one of 32 bits, B one from 1 to 63), and of an instruction with D RAX, S RBX, T RSI and M [RBP+R9*4-7] what it takes and makes.
type row struct {
	op     int
	name   string
	has    string
	reads  []int
	writes []int
	takes  int
	makes  int
}

func rows() []row {
	const a, b, t, d, sp, base, index = api.RAX, api.RBX, api.RSI, api.RDX, api.RSP, api.RBP, api.R9
	return []row{
		{api.OpMov, "mov", "DS", []int{b}, []int{a}, 0, 0},
		{api.OpMovImm, "mov", "DN", nil, []int{a}, 0, 0},
		{api.OpLoad, "mov", "DM", []int{base, index}, []int{a}, 0, 0},
		{api.OpStore, "mov", "SM", []int{b, base, index}, nil, 0, 0},
		{api.OpLea, "lea", "DM", []int{base, index}, []int{a}, 0, 0},
		{api.OpAdd, "add", "DS", []int{a, b}, []int{a}, 0, 7},
		{api.OpAdc, "adc", "DS", []int{a, b}, []int{a}, 1, 7},
		{api.OpSub, "sub", "DS", []int{a, b}, []int{a}, 0, 7},
		{api.OpSbb, "sbb", "DS", []int{a, b}, []int{a}, 1, 7},
		{api.OpAnd, "and", "DS", []int{a, b}, []int{a}, 0, 7},
		{api.OpOr, "or", "DS", []int{a, b}, []int{a}, 0, 7},
		{api.OpXor, "xor", "DS", []int{a, b}, []int{a}, 0, 7},
		{api.OpCmp, "cmp", "DS", []int{a, b}, nil, 0, 7},
		{api.OpTest, "test", "DS", []int{a, b}, nil, 0, 7},
		{api.OpAddImm, "add", "DW", []int{a}, []int{a}, 0, 7},
		{api.OpAndImm, "and", "DW", []int{a}, []int{a}, 0, 7},
		{api.OpSubImm, "sub", "DW", []int{a}, []int{a}, 0, 7},
		{api.OpCmpImm, "cmp", "DW", []int{a}, nil, 0, 7},
		{api.OpMulx, "mulx", "DST", []int{d, t}, []int{a, b}, 0, 0},
		{api.OpAdcx, "adcx", "DS", []int{a, b}, []int{a}, 1, 1},
		{api.OpAdox, "adox", "DS", []int{a, b}, []int{a}, 2, 2},
		{api.OpNeg, "neg", "D", []int{a}, []int{a}, 0, 7},
		{api.OpNot, "not", "D", []int{a}, []int{a}, 0, 0},
		{api.OpShl, "shl", "DB", []int{a}, []int{a}, 0, 5},
		{api.OpShr, "shr", "DB", []int{a}, []int{a}, 0, 5},
		{api.OpCmovc, "cmovc", "DS", []int{a, b}, []int{a}, 1, 0},
		{api.OpCmovnz, "cmovnz", "DS", []int{a, b}, []int{a}, 4, 0},
		{api.OpPush, "push", "S", []int{b, sp}, []int{sp}, 0, 0},
		{api.OpPop, "pop", "D", []int{sp}, []int{a, sp}, 0, 0},
		{api.OpJmp, "jmp", "W", nil, nil, 0, 0},
		{api.OpJnz, "jnz", "W", nil, nil, 4, 0},
		{api.OpJc, "jc", "W", nil, nil, 1, 0},
		{api.OpRet, "ret", "", []int{sp}, []int{sp}, 0, 0},
	}
}

// apart answers the operation's instruction of which the rows tell: all its registers are apart.
func (r row) apart() api.Inst {
	i := api.Inst{Op: r.op}
	for _, c := range r.has {
		switch c {
		case 'D':
			i.D = api.RAX
		case 'S':
			i.S = api.RBX
		case 'T':
			i.T = api.RSI
		case 'M':
			i.M = api.Mem{Base: api.RBP, Index: api.R9, Scale: 4, Disp: -7}
		default:
			i.Imm = 9
		}
	}
	return i
}

// may answers whether an instruction with the row's operation may be.
func (r row) may(i api.Inst) bool {
	register := func(n int, except int) bool { return 0 <= n && n <= 15 && n != except }
	fits32 := func(n int64) bool { return -1<<31 <= n && n < 1<<31 }
	for _, c := range r.has {
		ok := false
		switch c {
		case 'D':
			ok, i.D = register(i.D, -1) && (r.op != api.OpMulx || i.D != i.S), 0
		case 'S':
			ok, i.S = register(i.S, -1), 0
		case 'T':
			ok, i.T = register(i.T, -1), 0
		case 'M':
			m := i.M
			ok = register(m.Base, -1) && fits32(m.Disp)
			ok = ok && (m.Index == -1 && m.Scale == 1 || register(m.Index, api.RSP) && slices.Contains([]int{1, 2, 4, 8}, m.Scale))
			i.M = api.Mem{}
		case 'N':
			ok, i.Imm = true, 0
		case 'W':
			ok, i.Imm = fits32(i.Imm), 0
		case 'B':
			ok, i.Imm = 1 <= i.Imm && i.Imm <= 63, 0
		}
		if !ok {
			return false
		}
	}
	// All that is left is what it does not have.
	return i == api.Inst{Op: r.op}
}

// wrongOps are no operations.
var wrongOps = []int{math.MinInt, -1 << 32, -33, -1, 0, 34, 35, 64, 255, 256 + api.OpMov, 1<<32 + api.OpRet, math.MaxInt}

var registersToTry = []int{math.MinInt, -2, -1, 0, 1, api.RSP, api.RBP, 15, 16, 1 << 32, math.MaxInt}

var numbersToTry = []int64{
	math.MinInt64, -1<<32 - 1, -1 << 32, -1<<31 - 1, -1 << 31, -64, -1, 0, 1, 2, 31, 32, 62, 63, 64, 127, 128,
	1<<31 - 1, 1 << 31, 1<<32 - 1, 1 << 32, 1<<32 + 1, math.MaxInt64,
}

// places are those that may be, and those that may not.
func places() []api.Mem {
	var l []api.Mem
	for _, base := range registersToTry {
		for _, index := range registersToTry {
			for _, scale := range []int{math.MinInt, -1, 0, 1, 2, 3, 4, 5, 6, 7, 8, 9, 16, 1<<32 + 1, math.MaxInt} {
				l = append(l, api.Mem{Base: base, Index: index, Scale: scale}, api.Mem{Base: base, Index: index, Scale: scale, Disp: 5})
			}
		}
	}
	for _, disp := range numbersToTry {
		for _, m := range []api.Mem{{}, {Index: -1, Scale: 1}, {Base: 4, Index: 15, Scale: 8}, {Index: 4, Scale: 1}, {Index: -1, Scale: 2}} {
			m.Disp = disp
			l = append(l, m)
		}
	}
	return l
}

// checked holds Check against what should be, and all else that a wrong instruction answers.
func checked(t *testing.T, i api.Inst, may bool) {
	t.Helper()
	want := api.OK
	if !may {
		want = api.ErrArg
	}
	if e := Check(i); e != want {
		t.Fatalf("Check of %+v: %d, not %d", i, e, want)
	}
	if may {
		return
	}
	reads, writes := Flags(i)
	if len(Reads(i)) > 0 || len(Writes(i)) > 0 || reads != 0 || writes != 0 || Jump(i) {
		t.Fatalf("of %+v, which may not be: %v, %v, %d, %d, %v", i, Reads(i), Writes(i), reads, writes, Jump(i))
	}
}

// P5.1, P5.2: Check of all registers and numbers, right, wrong and at the edges
func TestCheckOfRegistersAndNumbers(t *testing.T) {
	for _, r := range rows() {
		for _, d := range registersToTry {
			for _, s := range registersToTry {
				for _, third := range registersToTry {
					for _, n := range numbersToTry {
						i := api.Inst{Op: r.op, D: d, S: s, T: third, M: r.apart().M, Imm: n}
						checked(t, i, r.may(i))
					}
				}
			}
		}
	}
}

// P5.1, P5.2: Check of all places, right and wrong, of operations that have one and that have none
func TestCheckOfPlaces(t *testing.T) {
	for _, r := range rows() {
		for _, m := range places() {
			i := r.apart()
			i.M = m
			checked(t, i, r.may(i))
		}
	}
}

// P5.1: each operation may be with every register where it has one, and with the numbers that it may have.
func TestCheckOfAllThatMayBe(t *testing.T) {
	for _, r := range rows() {
		checked(t, r.apart(), true)
		for n := range 16 {
			for other := range 16 {
				i := r.apart()
				if slices.Contains([]byte(r.has), 'D') {
					i.D = n
				}
				if slices.Contains([]byte(r.has), 'S') {
					i.S = other
				}
				checked(t, i, r.op != api.OpMulx || n != other)
			}
		}
	}
	for n := range int64(200) {
		for _, op := range []int{api.OpShl, api.OpShr} {
			checked(t, api.Inst{Op: op, D: 5, Imm: n - 100}, n >= 101 && n <= 163)
		}
	}
}

// P5.1, P5.2: what is no operation
func TestNoOperation(t *testing.T) {
	for _, op := range wrongOps {
		checked(t, api.Inst{Op: op}, false)
		for _, r := range rows() {
			i := r.apart()
			i.Op = op
			checked(t, i, false)
		}
		if s := Name(op); s != "" {
			t.Errorf("Name of %d: %q", op, s)
		}
	}
}

// P5.2: what each operation takes and makes
func TestEachOperation(t *testing.T) {
	for n, r := range rows() {
		i := r.apart()
		if r.op != n+1 {
			t.Errorf("row %d is of %d", n, r.op)
		}
		if l := Reads(i); !slices.Equal(l, r.reads) {
			t.Errorf("Reads of %s: %v, not %v", r.name, l, r.reads)
		}
		if l := Writes(i); !slices.Equal(l, r.writes) {
			t.Errorf("Writes of %s: %v, not %v", r.name, l, r.writes)
		}
		if reads, writes := Flags(i); reads != r.takes || writes != r.makes {
			t.Errorf("Flags of %s: %d, %d, not %d, %d", r.name, reads, writes, r.takes, r.makes)
		}
		if s := Name(r.op); s != r.name {
			t.Errorf("Name of %d: %q, not %q", r.op, s, r.name)
		}
		if is := Jump(i); is != slices.Contains([]string{"jmp", "jnz", "jc"}, r.name) {
			t.Errorf("Jump of %s: %v", r.name, is)
		}
	}
}

// P5.2: registers are told rising, and once.
func TestRegistersThatAreAlike(t *testing.T) {
	place := func(base, index int) api.Mem { return api.Mem{Base: base, Index: index, Scale: 1} }
	for _, c := range []struct {
		i      api.Inst
		reads  []int
		writes []int
	}{
		{api.Inst{Op: api.OpMov, D: 3, S: 3}, []int{3}, []int{3}},
		{api.Inst{Op: api.OpXor, D: 3, S: 3}, []int{3}, []int{3}},
		{api.Inst{Op: api.OpAdd, D: 15, S: 0}, []int{0, 15}, []int{15}},
		{api.Inst{Op: api.OpCmp, D: 9, S: 8}, []int{8, 9}, nil},
		{api.Inst{Op: api.OpCmovc, D: 7, S: 7}, []int{7}, []int{7}},
		{api.Inst{Op: api.OpLoad, D: 9, M: place(9, 9)}, []int{9}, []int{9}},
		{api.Inst{Op: api.OpLoad, D: 1, M: place(12, 3)}, []int{3, 12}, []int{1}},
		{api.Inst{Op: api.OpLoad, D: 1, M: place(4, -1)}, []int{4}, []int{1}},
		{api.Inst{Op: api.OpLoad, M: place(0, -1)}, []int{0}, []int{0}},
		{api.Inst{Op: api.OpLea, D: 2, M: place(2, 15)}, []int{2, 15}, []int{2}},
		{api.Inst{Op: api.OpStore, S: 6, M: place(6, 5)}, []int{5, 6}, nil},
		{api.Inst{Op: api.OpStore, S: 15, M: place(3, 0)}, []int{0, 3, 15}, nil},
		{api.Inst{Op: api.OpStore, S: 0, M: place(5, -1)}, []int{0, 5}, nil},
		{api.Inst{Op: api.OpMulx, D: 0, S: 1, T: 6}, []int{2, 6}, []int{0, 1}},
		{api.Inst{Op: api.OpMulx, D: 9, S: 2, T: 2}, []int{2}, []int{2, 9}},
		{api.Inst{Op: api.OpMulx, D: 2, S: 0, T: 0}, []int{0, 2}, []int{0, 2}},
		{api.Inst{Op: api.OpPush, S: 4}, []int{4}, []int{4}},
		{api.Inst{Op: api.OpPush, S: 1}, []int{1, 4}, []int{4}},
		{api.Inst{Op: api.OpPop, D: 4}, []int{4}, []int{4}},
		{api.Inst{Op: api.OpPop, D: 14}, []int{4}, []int{4, 14}},
	} {
		if l := Reads(c.i); !slices.Equal(l, c.reads) {
			t.Errorf("Reads of %+v: %v, not %v", c.i, l, c.reads)
		}
		if l := Writes(c.i); !slices.Equal(l, c.writes) {
			t.Errorf("Writes of %+v: %v, not %v", c.i, l, c.writes)
		}
	}
}

// P5.2: Register
func TestRegister(t *testing.T) {
	names := []string{"rax", "rcx", "rdx", "rbx", "rsp", "rbp", "rsi", "rdi"}
	for n := 8; n < 16; n++ {
		names = append(names, fmt.Sprint("r", n))
	}
	for n := -40; n < 300; n++ {
		want := ""
		if 0 <= n && n < 16 {
			want = names[n]
		}
		if s := Register(n); s != want {
			t.Errorf("Register of %d: %q, not %q", n, s, want)
		}
	}
	for _, n := range []int{math.MinInt, -1 << 32, 1 << 32, math.MaxInt} {
		if s := Register(n); s != "" {
			t.Errorf("Register of %d: %q", n, s)
		}
	}
}

// DOC.md's rule 3: lists are new, their spare room too.
func TestListsAreNew(t *testing.T) {
	for _, r := range rows() {
		i := r.apart()
		for _, f := range []func(api.Inst) []int{Reads, Writes} {
			want := slices.Clone(f(i))
			for _, other := range [][]int{f(i), Reads(i), Writes(i)} {
				other = other[:cap(other)]
				for n := range other {
					other[n] = 99
				}
			}
			first, second := f(i), Reads(i)
			clear(second[:cap(second)])
			if got := f(i); !slices.Equal(first, want) || !slices.Equal(got, want) {
				t.Errorf("%s: %v, then %v, not %v", r.name, first, got, want)
			}
		}
	}
}

// The document's examples of layer 5, and the README's.
func TestExamples(t *testing.T) {
	i := api.Inst{Op: api.OpMulx, D: api.RAX, S: api.RCX, T: api.RSI}
	if !slices.Equal(Reads(i), []int{api.RDX, api.RSI}) || !slices.Equal(Writes(i), []int{api.RAX, api.RCX}) || Check(i) != api.OK || Name(i.Op)+" "+Register(i.D) != "mulx rax" {
		t.Error(Reads(i), Writes(i), Check(i))
	}
	if reads, writes := Flags(api.Inst{Op: api.OpAdc}); reads != 1 || writes != 7 {
		t.Error(reads, writes)
	}
	i.S = api.RAX
	if Check(i) != api.ErrArg || Name(i.Op) != "mulx" || Register(i.T) != "rsi" {
		t.Error(Check(i), Name(i.Op), Register(i.T))
	}
}
