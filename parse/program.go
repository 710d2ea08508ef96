package parse

import "tapestry/api"

func (r *reader) program() api.Program {
	var p api.Program
	for r.taken < len(r.words) {
		p = append(p, r.component())
	}
	return p
}

func (r *reader) component() api.Component {
	r.open()
	if r.name() != "comp" {
		panic(none{})
	}
	c := api.Component{Name: r.name(), Param: r.name()}
	r.comp, r.deeds = c.Name, 0
	r.open()
	word := r.name()
	for ; word != "show"; word = r.name() {
		c.Body = append(c.Body, r.stmtOf(word))
		r.open()
	}
	c.Out = r.expr()
	r.shut()
	r.shut()
	return c
}

func (r *reader) stmt() api.Stmt {
	r.open()
	return r.stmtOf(r.name())
}

// stmtOf takes what comes behind the word that a statement begins with.
func (r *reader) stmtOf(word string) api.Stmt {
	switch word {
	case "let":
		return closed(r, api.Stmt{Kind: api.StLet, Name: r.name(), Expr: r.expr()})
	case "state":
		return closed(r, api.Stmt{Kind: api.StState, Name: r.name(), Expr: r.expr()})
	case "memo":
		return closed(r, api.Stmt{Kind: api.StMemo, Name: r.name(), Deps: within(r, r.expr), Expr: r.expr()})
	case "use":
		return closed(r, api.Stmt{Kind: api.StUse, Name: r.name(), Ctx: r.name()})
	case "layout":
		return closed(r, api.Stmt{Kind: api.StLayout, Deps: within(r, r.expr), Do: within(r, r.act), Undo: within(r, r.act)})
	case "effect":
		return closed(r, api.Stmt{Kind: api.StEffect, Deps: within(r, r.expr), Do: within(r, r.act), Undo: within(r, r.act)})
	case "when":
		return api.Stmt{Kind: api.StWhen, Expr: r.expr(), Body: all(r, r.stmt)}
	}
	panic(none{})
}

func (r *reader) act() api.Act {
	r.open()
	switch r.name() {
	case "set":
		return closed(r, api.Act{Kind: api.AcSet, Name: r.name(), Expr: r.expr()})
	case "log":
		return closed(r, api.Act{Kind: api.AcLog, Expr: r.expr()})
	case "fail":
		return closed(r, api.Act{Kind: api.AcFail, Expr: r.expr()})
	case "stop":
		return closed(r, api.Act{Kind: api.AcStop})
	}
	panic(none{})
}
