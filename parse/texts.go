package parse

import (
	"strconv"
	"strings"

	"keysmith/api"
)

// texts answers each thing's text.
func texts[T any](l []T, text func(T) string) []string {
	out := make([]string, 0, len(l))
	for _, x := range l {
		out = append(out, text(x))
	}
	return out
}

// joined answers parts with something between two; those that are empty are left out.
func joined(between string, parts ...string) string {
	var b strings.Builder
	for _, p := range parts {
		if p == "" {
			continue
		}
		if b.Len() > 0 {
			b.WriteString(between)
		}
		b.WriteString(p)
	}
	return b.String()
}

func commas(parts ...string) string {
	return joined(" , ", parts...)
}

// around answers a part with what stands ahead of it and behind it, as long as it is not empty.
func around(from, part, to string) string {
	if part == "" {
		return ""
	}
	return joined(" ", from, part, to)
}

func procedureText(p api.Proc) string {
	return joined(" ",
		"proc", p.Name, around("<", commas(p.Lens...), ">"),
		"(", commas(texts(p.Params, paramText)...), ")",
		around("requires", commas(texts(p.Requires, clauseText)...), ""),
		around("ensures", commas(texts(p.Ensures, clauseText)...), ""),
		"{", bodyText(p.Body), "}")
}

func paramText(p api.Param) string {
	return joined(" ", modeText(p.Mode), p.Name, "[", Length(p.Len), "]")
}

func modeText(mode int) string {
	switch mode {
	case api.ModePublic:
		return "public"
	case api.ModeSecret:
		return "secret"
	case api.ModeOut:
		return "out"
	}
	return ""
}

func clauseText(c api.Clause) string {
	switch c.Kind {
	case api.ClauseOdd:
		return joined(" ", "odd", c.A)
	case api.ClauseLess:
		return joined(" ", c.A, "<", c.B)
	case api.ClausePos:
		return joined(" ", "0", "<", c.A)
	}
	return ""
}

func termText(t api.Term) string {
	if t.Times == 1 {
		return t.Name
	}
	return joined(" ", strconv.Itoa(t.Times), "*", t.Name)
}

func argText(a api.Arg) string {
	if a.Name != "" {
		return a.Name
	}
	return strconv.FormatUint(a.Num, 10)
}

func expressionText(x api.Expr) string {
	args := texts(x.Args, argText)
	if isBetween(x.Op) {
		return joined(" "+x.Op+" ", args...)
	}
	if x.Op == "" {
		return commas(args...)
	}
	return joined(" ", x.Op, "(", commas(args...), ")")
}

// bodyText answers statements' text: a repeat is left open, till one stands less deep than what is in it, or none is left.
func bodyText(l []api.Stmt) string {
	var parts []string
	open := 0
	for deep, s := range rows(l) {
		if deep > open {
			// it stands in one of a kind that has no statements
			continue
		}
		for ; open > deep; open-- {
			parts = append(parts, "}")
		}
		parts = append(parts, statementText(s))
		if s.Kind == api.StmtRepeat {
			open++
		}
	}
	for ; open > 0; open-- {
		parts = append(parts, "}")
	}
	return joined(" ", parts...)
}

// statementText answers a statement's text, a repeat's up to where the statements in it begin.
func statementText(s *api.Stmt) string {
	switch s.Kind {
	case api.StmtLet:
		return joined(" ", "let", s.Name, "[", Length(s.Len), "]", "=", expressionText(s.Expr), ";")
	case api.StmtSet:
		return joined(" ", s.Name, "=", expressionText(s.Expr), ";")
	case api.StmtRepeat:
		return joined(" ", "repeat", Length(s.Len), "{")
	case api.StmtSwap:
		return joined(" ", "swap", joined(" ", s.Names...), ";")
	case api.StmtCall:
		return joined(" ", "call", s.Name, around("<", commas(texts(s.Lens, Length)...), ">"), "(", commas(s.Names...), ")", ";")
	}
	return ""
}
