package inst

import "keysmith/api"

// parts are what an operation has and what it does with it, as bits. What it has it takes or makes (or both), so no bit is needed for having it.
type parts uint16

const (
	takesD parts = 1 << iota
	makesD
	takesS
	makesS
	takesT
	place      // has M, whose registers it takes
	multiplier // takes RDX
	stack      // takes and makes RSP

	changesD = takesD | makesD
)

// A number's kind tells what Imm may be.
const (
	noNumber = iota
	anyNumber
	number32 // of 32 bits, with its sign
	distance // of a shift
)

const (
	carry    = 1 << iota // CF
	overflow             // OF
	zero                 // ZF

	allFlags = carry | overflow | zero
)

// form is what there is to know of an operation.
type form struct {
	name       string // none, if it is another operation's
	parts      parts
	number     int
	flagsTaken int
	flagsMade  int
}

var forms = [api.OpRet + 1]form{
	api.OpMov:    {name: "mov", parts: makesD | takesS},
	api.OpMovImm: {parts: makesD, number: anyNumber},
	api.OpLoad:   {parts: makesD | place},
	api.OpStore:  {parts: takesS | place},
	api.OpLea:    {name: "lea", parts: makesD | place},
	api.OpAdd:    {name: "add", parts: changesD | takesS, flagsMade: allFlags},
	api.OpAdc:    {name: "adc", parts: changesD | takesS, flagsTaken: carry, flagsMade: allFlags},
	api.OpSub:    {name: "sub", parts: changesD | takesS, flagsMade: allFlags},
	api.OpSbb:    {name: "sbb", parts: changesD | takesS, flagsTaken: carry, flagsMade: allFlags},
	api.OpAnd:    {name: "and", parts: changesD | takesS, flagsMade: allFlags},
	api.OpOr:     {name: "or", parts: changesD | takesS, flagsMade: allFlags},
	api.OpXor:    {name: "xor", parts: changesD | takesS, flagsMade: allFlags},
	api.OpCmp:    {name: "cmp", parts: takesD | takesS, flagsMade: allFlags},
	api.OpTest:   {name: "test", parts: takesD | takesS, flagsMade: allFlags},
	api.OpAddImm: {parts: changesD, number: number32, flagsMade: allFlags},
	api.OpAndImm: {parts: changesD, number: number32, flagsMade: allFlags},
	api.OpSubImm: {parts: changesD, number: number32, flagsMade: allFlags},
	api.OpCmpImm: {parts: takesD, number: number32, flagsMade: allFlags},
	api.OpMulx:   {name: "mulx", parts: makesD | makesS | takesT | multiplier},
	api.OpAdcx:   {name: "adcx", parts: changesD | takesS, flagsTaken: carry, flagsMade: carry},
	api.OpAdox:   {name: "adox", parts: changesD | takesS, flagsTaken: overflow, flagsMade: overflow},
	api.OpNeg:    {name: "neg", parts: changesD, flagsMade: allFlags},
	api.OpNot:    {name: "not", parts: changesD},
	api.OpShl:    {name: "shl", parts: changesD, number: distance, flagsMade: carry | zero},
	api.OpShr:    {name: "shr", parts: changesD, number: distance, flagsMade: carry | zero},
	// D is taken by a move that is not done, for it stays then.
	api.OpCmovc:  {name: "cmovc", parts: changesD | takesS, flagsTaken: carry},
	api.OpCmovnz: {name: "cmovnz", parts: changesD | takesS, flagsTaken: zero},
	api.OpPush:   {name: "push", parts: takesS | stack},
	api.OpPop:    {name: "pop", parts: makesD | stack},
	api.OpJmp:    {name: "jmp", number: number32},
	api.OpJnz:    {name: "jnz", number: number32, flagsTaken: zero},
	api.OpJc:     {name: "jc", number: number32, flagsTaken: carry},
	api.OpRet:    {name: "ret", parts: stack},
}

// has answers whether the form has one of these parts.
func (f form) has(p parts) bool {
	return f.parts&p != 0
}

// taken answers the registers that an instruction of this form takes.
func (f form) taken(i api.Inst) registers {
	var s registers
	s.add(i.D, f.has(takesD))
	s.add(i.S, f.has(takesS))
	s.add(i.T, f.has(takesT))
	s.add(i.M.Base, f.has(place))
	s.add(i.M.Index, f.has(place) && i.M.Index != api.None)
	s.add(api.RDX, f.has(multiplier))
	s.add(api.RSP, f.has(stack))
	return s
}

// made answers the registers that an instruction of this form makes.
func (f form) made(i api.Inst) registers {
	var s registers
	s.add(i.D, f.has(makesD))
	s.add(i.S, f.has(makesS))
	s.add(api.RSP, f.has(stack))
	return s
}
