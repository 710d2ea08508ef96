package print

import "tapestry/api"

// opening tells what stands ahead of a component's statements.
func (t *teller) opening(c *api.Component) bool {
	t.comp, t.deeds = c.Name, 0
	return t.opens("comp") && t.name(c.Name) && t.name(c.Param)
}

func (t *teller) body(c *api.Component) bool {
	return each(c.Body, t.stmt)
}

// showing tells what stands behind a component's statements, the byte 10 too.
func (t *teller) showing(c *api.Component) bool {
	return t.opens("show") && t.expr(&c.Out) && t.shut() && t.shut() && t.end()
}

func (t *teller) stmt(s *api.Stmt) bool {
	if fieldsOfStmt(s)&^namedOfStmt(s.Kind) != 0 {
		return false
	}
	switch s.Kind {
	case api.StLet:
		return t.opens("let") && t.name(s.Name) && t.expr(&s.Expr) && t.shut()
	case api.StState:
		return t.opens("state") && t.name(s.Name) && t.expr(&s.Expr) && t.shut()
	case api.StMemo:
		return t.opens("memo") && t.name(s.Name) && within(t, s.Deps, t.expr) && t.expr(&s.Expr) && t.shut()
	case api.StUse:
		return t.opens("use") && t.name(s.Name) && t.name(s.Ctx) && t.shut()
	case api.StLayout:
		return t.opens("layout") && t.runs(s) && t.shut()
	case api.StEffect:
		return t.opens("effect") && t.runs(s) && t.shut()
	case api.StWhen:
		return t.opens("when") && t.expr(&s.Expr) && each(s.Body, t.stmt) && t.shut()
	}
	return false
}

// runs tells when a layout or an effect runs again, what it does, and what undoes it.
func (t *teller) runs(s *api.Stmt) bool {
	return within(t, s.Deps, t.expr) && within(t, s.Do, t.act) && within(t, s.Undo, t.act)
}

func (t *teller) act(a *api.Act) bool {
	if fieldsOfAct(a)&^namedOfAct(a.Kind) != 0 {
		return false
	}
	switch a.Kind {
	case api.AcSet:
		return t.opens("set") && t.name(a.Name) && t.expr(&a.Expr) && t.shut()
	case api.AcLog:
		return t.opens("log") && t.expr(&a.Expr) && t.shut()
	case api.AcFail:
		return t.opens("fail") && t.expr(&a.Expr) && t.shut()
	case api.AcStop:
		return t.opens("stop") && t.shut()
	}
	return false
}
