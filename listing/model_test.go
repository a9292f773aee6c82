package listing

import (
	"fmt"
	"math/big"
	"regexp"
	"strings"

	"keysmith/api"
)

// pattern is an operation's texts, by hand: D, S and T stand for registers, M for a place, N for any number, L for one of 32 bits, H for a shift's, J for a jump's.
type pattern struct {
	op   int
	text string
}

var patterns = []pattern{
	{api.OpMov, "mov D, S"},
	{api.OpMovImm, "mov D, N"},
	{api.OpLoad, "mov D, M"},
	{api.OpStore, "mov M, S"},
	{api.OpLea, "lea D, M"},
	{api.OpAdd, "add D, S"},
	{api.OpAdc, "adc D, S"},
	{api.OpSub, "sub D, S"},
	{api.OpSbb, "sbb D, S"},
	{api.OpAnd, "and D, S"},
	{api.OpOr, "or D, S"},
	{api.OpXor, "xor D, S"},
	{api.OpCmp, "cmp D, S"},
	{api.OpTest, "test D, S"},
	{api.OpAddImm, "add D, L"},
	{api.OpAndImm, "and D, L"},
	{api.OpSubImm, "sub D, L"},
	{api.OpCmpImm, "cmp D, L"},
	{api.OpMulx, "mulx D, S, T"},
	{api.OpAdcx, "adcx D, S"},
	{api.OpAdox, "adox D, S"},
	{api.OpNeg, "neg D"},
	{api.OpNot, "not D"},
	{api.OpShl, "shl D, H"},
	{api.OpShr, "shr D, H"},
	{api.OpCmovc, "cmovc D, S"},
	{api.OpCmovnz, "cmovnz D, S"},
	{api.OpPush, "push S"},
	{api.OpPop, "pop D"},
	{api.OpJmp, "jmp J"},
	{api.OpJnz, "jnz J"},
	{api.OpJc, "jc J"},
	{api.OpRet, "ret"},
}

var names = []string{"rax", "rcx", "rdx", "rbx", "rsp", "rbp", "rsi", "rdi", "r8", "r9", "r10", "r11", "r12", "r13", "r14", "r15"}

// modelText answers the text of an instruction that may be.
func modelText(i api.Inst) string {
	s := patterns[i.Op-1].text
	at := strings.Index(s+" ", " ")
	for letter, is := range map[string]func() string{
		"D": func() string { return names[i.D] },
		"S": func() string { return names[i.S] },
		"T": func() string { return names[i.T] },
		"M": func() string { return modelPlace(i.M) },
		"N": func() string { return fmt.Sprintf("%d", i.Imm) },
		"L": func() string { return fmt.Sprintf("%d", i.Imm) },
		"H": func() string { return fmt.Sprintf("%d", i.Imm) },
		"J": func() string { return fmt.Sprintf("%+d", i.Imm) },
	} {
		if strings.Contains(s[at:], letter) {
			s = s[:at] + strings.Replace(s[at:], letter, is(), 1)
		}
	}
	return s
}

func modelPlace(m api.Mem) string {
	s := "[" + names[m.Base]
	if m.Index >= 0 {
		s += fmt.Sprintf("+%d*%s", m.Scale, names[m.Index])
	}
	if m.Disp != 0 {
		s += fmt.Sprintf("%+d", m.Disp)
	}
	return s + "]"
}

// grammar is a pattern as a regular expression, whose groups are named by the pattern's letters (of a place: B, I, C, P).
type grammar struct {
	op int
	re *regexp.Regexp
}

func grammars() []grammar {
	const (
		register = `rax|rcx|rdx|rbx|rsp|rbp|rsi|rdi|r8|r9|r1[0-5]`
		number   = `0|-?[1-9][0-9]*`
		signed   = `[+-][1-9][0-9]*`
		place    = `\[(?P<B>` + register + `)(?:\+(?P<C>[1248])\*(?P<I>` + register + `))?(?P<P>` + signed + `)?\]`
	)
	kinds := strings.NewReplacer(
		"D", `(?P<D>`+register+`)`, "S", `(?P<S>`+register+`)`, "T", `(?P<T>`+register+`)`, "M", place,
		"N", `(?P<N>`+number+`)`, "L", `(?P<L>`+number+`)`, "H", `(?P<H>`+number+`)`, "J", `(?P<J>\+0|`+signed+`)`,
	)
	var l []grammar
	for _, p := range patterns {
		l = append(l, grammar{p.op, regexp.MustCompile(`\A` + kinds.Replace(p.text) + `\z`)})
	}
	return l
}

// modelRead answers the instruction that has this text, and whether there is one.
func modelRead(l []grammar, s string) (api.Inst, bool) {
	for _, g := range l {
		groups := g.re.FindStringSubmatch(s)
		if groups == nil {
			continue
		}
		if i, ok := modelInst(g, groups); ok {
			return i, true
		}
	}
	return api.Inst{}, false
}

func modelInst(g grammar, groups []string) (api.Inst, bool) {
	i := api.Inst{Op: g.op}
	right := true
	for k, letter := range g.re.SubexpNames() {
		s := groups[k]
		switch letter {
		case "D":
			i.D = indexOf(s)
		case "S":
			i.S = indexOf(s)
		case "T":
			i.T = indexOf(s)
		case "B":
			i.M = api.Mem{Base: indexOf(s), Index: api.None, Scale: 1}
		case "C":
			if s != "" {
				i.M.Scale = int(s[0] - '0')
			}
		case "I":
			if s != "" {
				i.M.Index = indexOf(s)
				right = right && s != "rsp"
			}
		case "P":
			if s != "" {
				right = between(s, -1<<31, 1<<31-1, &i.M.Disp) && right
			}
		case "N":
			right = between(s, -1<<63, 1<<63-1, &i.Imm) && right
		case "L", "J":
			right = between(s, -1<<31, 1<<31-1, &i.Imm) && right
		case "H":
			right = between(s, 1, 63, &i.Imm) && right
		}
	}
	return i, right && (g.op != api.OpMulx || i.D != i.S)
}

// between reads a number, and answers whether it is one of these.
func between(s string, least, most int64, n *int64) bool {
	b, ok := new(big.Int).SetString(s, 10)
	if !ok || !b.IsInt64() {
		return false
	}
	*n = b.Int64()
	return *n >= least && *n <= most
}

func indexOf(name string) int {
	for r, s := range names {
		if s == name {
			return r
		}
	}
	return -2
}
