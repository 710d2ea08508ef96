package check

import "tapestry/api"

// part of a program: how deep it lies, and what tells whether its own names are wrong where it stands.
// The limits come first, so that nothing is asked about names where there are too many of them.
type part struct {
	deep  int
	wrong func() bool
}

// gatherer goes through programs that are a text's: what a row does not name is zero there, and lists are as long as their rows say.
type gatherer struct {
	all []part
}

// partsOf a program. Statements come in the order of its text, as what they make is known behind them alone;
// in which order expressions that stand beside one another come makes no difference.
func partsOf(p api.Program) []part {
	g := &gatherer{}
	comps := compsOf(p)
	for i := range p {
		g.comp(&p[i], comps)
	}
	return g.all
}

func (g *gatherer) add(at place, wrong func() bool) {
	g.all = append(g.all, part{at.deep, wrong})
}

func (g *gatherer) comp(c *api.Component, comps names) {
	at := place{deep: 1, known: nothing().and(c.Param), states: statesOf(c.Body, nothing()), comps: comps}
	// Components are held against one another as a whole.
	g.add(at, func() bool { return false })
	in := g.stmts(c.Body, at.within())
	g.expr(&c.Out, in)
}

// stmts answers the place behind them: what they make is known there.
func (g *gatherer) stmts(l []api.Stmt, at place) place {
	for i := range l {
		at.known = g.stmt(&l[i], at)
	}
	return at
}

// stmt answers the names that are known behind it.
func (g *gatherer) stmt(s *api.Stmt, at place) names {
	g.add(at, func() bool { return at.stmtWrong(s) })
	in := at.within()
	g.exprs(s.Deps, in)
	switch s.Kind {
	case api.StLet, api.StState, api.StMemo, api.StWhen:
		g.expr(&s.Expr, in)
	}
	g.acts(s.Do, in)
	g.acts(s.Undo, in)
	known := g.stmts(s.Body, in).known
	if makes(s) {
		known = known.and(s.Name)
	}
	return known
}

func (g *gatherer) acts(l []api.Act, at place) {
	for i := range l {
		a := &l[i]
		g.add(at, func() bool { return at.actWrong(a) })
		if a.Kind != api.AcStop {
			g.expr(&a.Expr, at.within().knowing("it"))
		}
	}
}

func (g *gatherer) exprs(l []api.Expr, at place) {
	for i := range l {
		g.expr(&l[i], at)
	}
}

func (g *gatherer) expr(e *api.Expr, at place) {
	g.add(at, func() bool { return at.exprWrong(e) })
	in := at.within()
	g.exprs(e.Key, in)
	g.exprs(e.Vals, in)
	g.acts(e.Acts, in)
	if e.Kind == api.ExEach {
		g.expr(&e.Args[0], in)
		g.expr(&e.Args[1], in.knowing(e.S))
		return
	}
	g.exprs(e.Args, in)
}
