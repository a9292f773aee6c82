package parse

import (
	"math/rand"
	"slices"
	"sort"
	"strconv"
	"strings"

	"keysmith/api"
)

// maker makes a source's words by chance, and what should be read of them.
type maker struct {
	*rand.Rand
	words []string
}

var someNames = strings.Fields("a b c k m n x r r2 f g _ é ä1 procs Let odd1 lets repeats Out swap_ kmul2 less 名")

func (m *maker) put(words ...string) {
	m.words = append(m.words, words...)
}

func (m *maker) name() string {
	s := someNames[m.Intn(len(someNames))]
	m.put(s)
	return s
}

// number puts a number, with noughts ahead at times.
func (m *maker) number(n uint64) uint64 {
	m.put(strings.Repeat("0", max(0, m.Intn(6)-3)) + strconv.FormatUint(n, 10))
	return n
}

// many puts things by chance, so many, with commas between.
func many[T any](m *maker, n int, one func() T) []T {
	var l []T
	for i := range n {
		if i > 0 {
			m.put(",")
		}
		l = append(l, one())
	}
	return l
}

func (m *maker) length() api.Len {
	var l api.Len
	var names []string
	for i := range 1 + m.Intn(4) {
		if i > 0 {
			m.put("+")
		}
		switch m.Intn(4) {
		case 0:
			l.Const += int(m.number(uint64(m.Intn(300))))
		case 1:
			names = append(names, m.name())
		case 2:
			times := int(m.number(uint64(m.Intn(4))))
			m.put("*")
			names = append(names, slices.Repeat([]string{m.name()}, times)...)
		case 3:
			l.Const += int(m.number(uint64(m.Intn(2))))
		}
	}
	sort.Strings(names)
	for i, s := range names {
		if i == 0 || names[i-1] != s {
			l.Terms = append(l.Terms, api.Term{Name: s})
		}
		l.Terms[len(l.Terms)-1].Times++
	}
	return l
}

func (m *maker) arg() api.Arg {
	if m.Intn(3) > 0 {
		return api.Arg{Name: m.name()}
	}
	return api.Arg{Num: m.number(m.Uint64() >> m.Intn(64))}
}

func (m *maker) expression() api.Expr {
	ops := strings.Fields("kmul lt sel mod addm subm mont pow")
	switch m.Intn(3) {
	case 0:
		return api.Expr{Args: []api.Arg{m.arg()}}
	case 1:
		op := string("+-*"[m.Intn(3)])
		a := m.arg()
		m.put(op)
		return api.Expr{Op: op, Args: []api.Arg{a, m.arg()}}
	}
	op := ops[m.Intn(len(ops))]
	m.put(op, "(")
	args := many(m, 1+m.Intn(5), m.arg)
	m.put(")")
	return api.Expr{Op: op, Args: args}
}

func (m *maker) statement(nest int) api.Stmt {
	s := api.Stmt{Kind: 1 + m.Intn(5)}
	if nest == 4 && s.Kind == api.StmtRepeat {
		s.Kind = api.StmtSet
	}
	switch s.Kind {
	case api.StmtLet:
		m.put("let")
		s.Name = m.name()
		m.put("[")
		s.Len = m.length()
		m.put("]", "=")
		s.Expr = m.expression()
		m.put(";")
	case api.StmtSet:
		s.Name = m.name()
		m.put("=")
		s.Expr = m.expression()
		m.put(";")
	case api.StmtRepeat:
		m.put("repeat")
		s.Len = m.length()
		s.Body = m.body(nest + 1)
	case api.StmtSwap:
		m.put("swap")
		s.Names = []string{m.name(), m.name(), m.name()}
		m.put(";")
	case api.StmtCall:
		m.put("call")
		s.Name = m.name()
		if n := m.Intn(13); n > 0 && m.Intn(2) > 0 {
			m.put("<")
			s.Lens = many(m, n, m.length)
			m.put(">")
		}
		m.put("(")
		s.Names = many(m, m.Intn(13), m.name)
		m.put(")", ";")
	}
	return s
}

func (m *maker) body(nest int) []api.Stmt {
	var l []api.Stmt
	m.put("{")
	for range m.Intn(6 - nest) {
		l = append(l, m.statement(nest))
	}
	m.put("}")
	return l
}

func (m *maker) param() api.Param {
	p := api.Param{Mode: 1 + m.Intn(3)}
	m.put([]string{"public", "secret", "out"}[p.Mode-1])
	p.Name = m.name()
	m.put("[")
	p.Len = m.length()
	m.put("]")
	return p
}

func (m *maker) clause() api.Clause {
	switch m.Intn(3) {
	case 0:
		m.put("odd")
		return api.Clause{Kind: api.ClauseOdd, A: m.name()}
	case 1:
		a := m.name()
		m.put("<")
		return api.Clause{Kind: api.ClauseLess, A: a, B: m.name()}
	}
	m.number(0)
	m.put("<")
	return api.Clause{Kind: api.ClausePos, A: m.name()}
}

func (m *maker) clauses(head string) []api.Clause {
	if m.Intn(2) == 0 {
		return nil
	}
	m.put(head)
	return many(m, 1+m.Intn(4), m.clause)
}

func (m *maker) procedure() api.Proc {
	var p api.Proc
	m.put("proc")
	p.Name = m.name()
	if n := m.Intn(13); n > 0 && m.Intn(3) > 0 {
		m.put("<")
		p.Lens = many(m, n, m.name)
		m.put(">")
	}
	m.put("(")
	p.Params = many(m, m.Intn(13), m.param)
	m.put(")")
	p.Requires = m.clauses("requires")
	p.Ensures = m.clauses("ensures")
	p.Body = m.body(0)
	return p
}

// source makes some procedures: their words stand in m.
func (m *maker) source(most int) []api.Proc {
	m.words = nil
	var l []api.Proc
	for range 1 + m.Intn(most) {
		l = append(l, m.procedure())
	}
	return l
}

// spread puts white between words by chance, none only where none has to be.
func (m *maker) spread() string {
	whites := []string{" ", "\n", "\t", "\r\n", "  ", "# x = (\n", " # é\n# 2a\n"}
	var b strings.Builder
	signs := "()[]{}<>,;:=+-*"
	for i, w := range m.words {
		must := i > 0 && !strings.Contains(signs, w) && !strings.Contains(signs, m.words[i-1])
		if must || m.Intn(3) == 0 {
			b.WriteString(whites[m.Intn(len(whites))])
		}
		b.WriteString(w)
	}
	return b.String() + []string{"", " ", "\n", "# end"}[m.Intn(4)]
}
