package parse

import (
	"keysmith/api"
	"keysmith/scan"
)

func (r *reader) procedures() []api.Proc {
	var l []api.Proc
	for len(l) == 0 || r.next < len(r.words) {
		if len(l) == api.MaxProcs && r.text() == "proc" {
			r.refuse(api.ErrFull)
		}
		l = append(l, r.procedure())
	}
	return l
}

func (r *reader) procedure() api.Proc {
	var p api.Proc
	r.must("proc")
	p.Name = r.name()
	p.Lens = angled(r, r.name)
	p.Params = round(r, r.param)
	p.Requires = r.clauses("requires")
	p.Ensures = r.clauses("ensures")
	p.Body = r.body()
	return p
}

func (r *reader) param() api.Param {
	var p api.Param
	p.Mode = r.mode()
	p.Name = r.name()
	p.Len = r.inBrackets()
	return p
}

func (r *reader) mode() int {
	switch {
	case r.take("public"):
		return api.ModePublic
	case r.take("secret"):
		return api.ModeSecret
	}
	r.must("out")
	return api.ModeOut
}

func (r *reader) clauses(head string) []api.Clause {
	if !r.take(head) {
		return nil
	}
	return list(r, nil, endless, r.clause)
}

func (r *reader) clause() api.Clause {
	if r.take("odd") {
		return api.Clause{Kind: api.ClauseOdd, A: r.name()}
	}
	if n, ok := scan.Number(r.text()); ok && n == 0 {
		r.next++
		r.must("<")
		return api.Clause{Kind: api.ClausePos, A: r.name()}
	}
	c := api.Clause{Kind: api.ClauseLess}
	c.A = r.name()
	r.must("<")
	c.B = r.name()
	return c
}
