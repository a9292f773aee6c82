package parse

import (
	"keysmith/api"
	"keysmith/scan"
)

func (r *reader) body() []api.Stmt {
	var l []api.Stmt
	r.must("{")
	for !r.take("}") {
		l = append(l, r.statement())
	}
	return l
}

func (r *reader) statement() api.Stmt {
	switch r.text() {
	case "let":
		return r.let()
	case "repeat":
		return r.repeat()
	case "swap":
		return r.swap()
	case "call":
		return r.call()
	}
	return r.set()
}

func (r *reader) let() api.Stmt {
	s := api.Stmt{Kind: api.StmtLet}
	r.must("let")
	s.Name = r.name()
	s.Len = r.inBrackets()
	s.Expr = r.made()
	return s
}

func (r *reader) set() api.Stmt {
	s := api.Stmt{Kind: api.StmtSet}
	s.Name = r.name()
	s.Expr = r.made()
	return s
}

func (r *reader) repeat() api.Stmt {
	s := api.Stmt{Kind: api.StmtRepeat}
	if r.nest == api.MaxNest {
		r.refuse(api.ErrFull)
	}
	r.must("repeat")
	s.Len = r.sum()
	r.nest++
	s.Body = r.body()
	r.nest--
	return s
}

func (r *reader) swap() api.Stmt {
	s := api.Stmt{Kind: api.StmtSwap}
	r.must("swap")
	for range 3 {
		s.Names = append(s.Names, r.name())
	}
	r.must(";")
	return s
}

func (r *reader) call() api.Stmt {
	s := api.Stmt{Kind: api.StmtCall}
	r.must("call")
	s.Name = r.name()
	s.Lens = angled(r, r.sum)
	s.Names = round(r, r.name)
	r.must(";")
	return s
}

// made reads what a statement makes its name, up to the statement's end.
func (r *reader) made() api.Expr {
	r.must("=")
	x := r.expression()
	r.must(";")
	return x
}

func (r *reader) expression() api.Expr {
	op := r.text()
	if many, ok := r.operations[op]; ok {
		r.next++
		r.must("(")
		// many is how much room there is at first: other numbers of args may stand there, too
		args := list(r, make([]api.Arg, 0, many), endless, r.arg)
		r.must(")")
		return api.Expr{Op: op, Args: args}
	}
	x := api.Expr{Args: []api.Arg{r.arg()}}
	if op = r.text(); isBetween(op) {
		r.next++
		x.Op = op
		x.Args = append(x.Args, r.arg())
	}
	return x
}

func (r *reader) arg() api.Arg {
	if n, ok := scan.Number(r.text()); ok {
		r.next++
		return api.Arg{Num: n}
	}
	return api.Arg{Name: r.name()}
}
