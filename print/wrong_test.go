package print_test

import (
	"math"
	"testing"

	"tapestry/api"
)

var (
	zero = api.Expr{}
	one  = api.Expr{Kind: api.ExInt, N: 1}
	act  = api.Act{Kind: api.AcStop}
)

// exprWrong: an expression's text, and what makes it one of no text.
var exprWrong = []struct {
	s    string
	make func(e *api.Expr)
}{
	{"yes", func(e *api.Expr) { e.N = 2 }},
	{"no", func(e *api.Expr) { e.N = -1 }},
	{"yes", func(e *api.Expr) { e.N = math.MinInt64 }},
	{"no", func(e *api.Expr) { e.N = 1 << 32 }},
	{"(if a b c)", func(e *api.Expr) { e.Args = e.Args[:2] }},
	{"(if a b c)", func(e *api.Expr) { e.Args = append(e.Args, zero) }},
	{"(if a b c)", func(e *api.Expr) { e.Args = nil }},
	{"(each a b c)", func(e *api.Expr) { e.Args = e.Args[:1] }},
	{"(each a b c)", func(e *api.Expr) { e.Args = append(e.Args, zero) }},
	{"(each a b c)", func(e *api.Expr) { e.Args = nil }},
	{"(read a)", func(e *api.Expr) { e.Args = nil }},
	{"(read a)", func(e *api.Expr) { e.Args = append(e.Args, zero) }},
	{"(throw a)", func(e *api.Expr) { e.Args = nil }},
	{"(throw a)", func(e *api.Expr) { e.Args = append(e.Args, one) }},
	{"(rec (a 1))", func(e *api.Expr) { e.Names = nil }},
	{"(rec (a 1))", func(e *api.Expr) { e.Vals = nil }},
	{"(rec (a 1))", func(e *api.Expr) { e.Names = append(e.Names, "b") }},
	{"(rec (a 1))", func(e *api.Expr) { e.Vals = append(e.Vals, zero) }},
	{"(rec)", func(e *api.Expr) { e.Names = []string{""} }},
	{"(rec)", func(e *api.Expr) { e.Vals = []api.Expr{zero} }},
	{"(host - a ((b 1)))", func(e *api.Expr) { e.Names = nil }},
	{"(host - a ((b 1)))", func(e *api.Expr) { e.Vals = nil }},
	{"(new - a ((b 1)))", func(e *api.Expr) { e.Names = append(e.Names, "c") }},
	{"(pure - a ((b 1)))", func(e *api.Expr) { e.Vals = append(e.Vals, one) }},
	{"(host k a ())", func(e *api.Expr) { e.Key = append(e.Key, zero) }},
	{"(new k a ())", func(e *api.Expr) { e.Key = append(e.Key, one) }},
	{"(pure k a ())", func(e *api.Expr) { e.Key = append(e.Key, one, one) }},
	{"(frag - a)", func(e *api.Expr) { e.Key = []api.Expr{one, one} }},
	{"(frag k a)", func(e *api.Expr) { e.Key = append(e.Key, zero) }},
	{"(portal k a)", func(e *api.Expr) { e.Key = append(e.Key, zero) }},
	{"(give k a 1)", func(e *api.Expr) { e.Key = append(e.Key, zero) }},
	{"(guard k a 1)", func(e *api.Expr) { e.Key = append(e.Key, zero) }},
	{"(wait k a 1)", func(e *api.Expr) { e.Key = append(e.Key, zero) }},
	{"(give - a 1)", func(e *api.Expr) { e.Names = []string{"values"} }},
	{"(give - a 1)", func(e *api.Expr) { e.Names = []string{"else"} }},
	{"(give - a 1)", func(e *api.Expr) { e.Names = []string{""} }},
	{"(give - a 1)", func(e *api.Expr) { e.Names = []string{"value", "value"} }},
	{"(give - a 1)", func(e *api.Expr) { e.Names = []string{"value", "else"}; e.Vals = append(e.Vals, one) }},
	{"(give - a 1)", func(e *api.Expr) { e.Vals = nil }},
	{"(give - a 1)", func(e *api.Expr) { e.Vals = append(e.Vals, one) }},
	{"(give - a 1)", func(e *api.Expr) { e.Names = nil }},
	{"(give - a 1)", func(e *api.Expr) { e.Names, e.Vals = nil, nil }},
	{"(guard - a 1)", func(e *api.Expr) { e.Names = []string{"else", "again"} }},
	{"(guard - a 1)", func(e *api.Expr) { e.Names = []string{"again", "again"} }},
	{"(guard - a 1)", func(e *api.Expr) { e.Names = []string{"again"} }},
	{"(guard - a 1)", func(e *api.Expr) { e.Names, e.Vals = []string{"again"}, e.Vals[:1] }},
	{"(guard - a 1)", func(e *api.Expr) { e.Names, e.Vals = []string{"else"}, e.Vals[:1] }},
	{"(guard - a 1)", func(e *api.Expr) { e.Names, e.Vals = append(e.Names, "else"), append(e.Vals, one) }},
	{"(guard - a 1)", func(e *api.Expr) { e.Vals = e.Vals[:1] }},
	{"(guard - a 1)", func(e *api.Expr) { e.Vals = append(e.Vals, one) }},
	{"(guard - a 1)", func(e *api.Expr) { e.Names, e.Vals = nil, nil }},
	{"(wait - a 1)", func(e *api.Expr) { e.Names = []string{"again"} }},
	{"(wait - a 1)", func(e *api.Expr) { e.Names = []string{"Else"} }},
	{"(wait - a 1)", func(e *api.Expr) { e.Names = []string{"again", "else"}; e.Vals = append(e.Vals, one) }},
	{"(wait - a 1)", func(e *api.Expr) { e.Vals = nil }},
	{"(wait - a 1)", func(e *api.Expr) { e.Vals = append(e.Vals, one) }},
	{"(wait - a 1)", func(e *api.Expr) { e.Names, e.Vals = nil, nil }},
	{"(frag - a)", func(e *api.Expr) { e.S = "a" }},
	{"(frag - a)", func(e *api.Expr) { e.Names, e.Vals = []string{"a"}, []api.Expr{one} }},
	{"(frag - a)", func(e *api.Expr) { e.Names = []string{"a"} }},
	{"(frag - a)", func(e *api.Expr) { e.Vals = []api.Expr{zero} }},
	{"(portal - a)", func(e *api.Expr) { e.Names, e.Vals = []string{"a"}, []api.Expr{one} }},
	{"(portal - a)", func(e *api.Expr) { e.Names = []string{""} }},
	{"(portal - a)", func(e *api.Expr) { e.Vals = []api.Expr{zero} }},
	{"(guard - a 1)", func(e *api.Expr) { e.S = "a" }},
	{"(wait - a 1)", func(e *api.Expr) { e.S = "a" }},
	{"(frag - a)", func(e *api.Expr) { e.Elem = api.ElNone }},
	{"(frag - a)", func(e *api.Expr) { e.Elem = api.ElText }},
	{"(host - a ())", func(e *api.Expr) { e.Elem = api.ElText }},
	{"(f)", func(e *api.Expr) { e.Kind = api.ExElem }},
}

// P5.1: expressions that are none of a text's, alone and in each place where one stands.
func TestWrongExprs(t *testing.T) {
	for i, c := range exprWrong {
		p := of(t, shown(c.s))
		c.make(&p[0].Out)
		fails(t, p, api.ErrArg, "%d: %s", i, c.s)
		wrong := p[0].Out
		for _, at := range append(aroundExpr(), "%") {
			fails(t, holed(t, shown(put("HERE", at)), wrong), api.ErrArg, "%d: %s within %s", i, c.s, at)
		}
		for _, at := range aroundInStmt() {
			fails(t, holed(t, stated(put("HERE", at)), wrong), api.ErrArg, "%d: %s within %s", i, c.s, at)
		}
	}
}

// P5.1: whatever a row does not name is to be zero: each other field of each row, by the row's own field set.
func TestUnnamedFields(t *testing.T) {
	set := map[string]func(e *api.Expr){
		"N": func(e *api.Expr) { e.N = 1 }, "S": func(e *api.Expr) { e.S = "a" }, "Args": func(e *api.Expr) { e.Args = []api.Expr{zero} },
		"Names": func(e *api.Expr) { e.Names = []string{"a"} }, "Vals": func(e *api.Expr) { e.Vals = []api.Expr{zero} },
		"Pairs": func(e *api.Expr) { e.Names, e.Vals = []string{"a"}, []api.Expr{one} },
		"Elem":  func(e *api.Expr) { e.Elem = api.ElFrag }, "Key": func(e *api.Expr) { e.Key = []api.Expr{zero} },
		"Acts": func(e *api.Expr) { e.Acts = []api.Act{act} }, "Site": func(e *api.Expr) { e.Site = "App#0" },
	}
	for s, others := range map[string]string{
		"none":       "N S Args Names Vals Pairs Elem Key Acts Site",
		"5":          "S Args Names Vals Pairs Elem Key Acts Site",
		"yes":        "S Args Names Vals Pairs Elem Key Acts Site",
		"no":         "S Args Names Vals Pairs Elem Key Acts Site",
		`"x"`:        "N Args Names Vals Pairs Elem Key Acts Site",
		"x":          "N Args Names Vals Pairs Elem Key Acts Site",
		"(f)":        "N Names Vals Pairs Elem Key Acts Site",
		"(f x)":      "N Names Vals Pairs Elem Key Acts Site",
		"(if a b c)": "N S Names Vals Pairs Elem Key Acts Site",
		// of these, a name of their own, and lists of a length of their own
		"(each a b c)":  "N Args Names Vals Pairs Elem Key Acts Site",
		"(read a)":      "N S Names Vals Pairs Elem Key Acts Site",
		"(throw a)":     "N S Names Vals Pairs Elem Key Acts Site",
		"(rec)":         "N S Args Names Vals Elem Key Acts Site",
		"(rec (b 1))":   "N S Args Elem Key Acts Site",
		"(do)":          "N S Args Names Vals Pairs Elem Key",
		"(do (stop))":   "N S Args Names Vals Pairs Elem Key",
		"(host - a ())": "N Names Vals Acts Site",
		"(new - a ())":  "N Names Vals Acts Site",
		"(pure - a ())": "N Names Vals Acts Site",
		"(frag -)":      "N S Names Vals Pairs Acts Site",
		"(portal - a)":  "N Names Vals Pairs Acts Site",
		"(give - a 1)":  "N Names Pairs Acts Site",
		"(guard - a 1)": "N S Names Vals Pairs Acts Site",
		"(wait - a)":    "N S Names Pairs Acts Site",
	} {
		for name, make := range set {
			if !contains(others, name) {
				continue
			}
			p := of(t, shown(s))
			make(&p[0].Out)
			fails(t, p, api.ErrArg, "%s with %s", s, name)
		}
	}
}

// P5.1: of statements and acts likewise; that they have an expression is told by each of its fields.
func TestUnnamedFieldsOfStmts(t *testing.T) {
	set := map[string]func(s *api.Stmt){
		"Name": func(s *api.Stmt) { s.Name = "a" }, "Ctx": func(s *api.Stmt) { s.Ctx = "a" },
		"Deps": func(s *api.Stmt) { s.Deps = []api.Expr{zero} }, "Do": func(s *api.Stmt) { s.Do = []api.Act{act} },
		"Undo": func(s *api.Stmt) { s.Undo = []api.Act{act} }, "Body": func(s *api.Stmt) { s.Body = []api.Stmt{{Kind: api.StWhen}} },
		"Expr": func(s *api.Stmt) { s.Expr = one },
	}
	for s, others := range map[string]string{
		"(let a 1)":         "Ctx Deps Do Undo Body",
		"(state a 1)":       "Ctx Deps Do Undo Body",
		"(memo a () 1)":     "Ctx Do Undo Body",
		"(use a b)":         "Expr Deps Do Undo Body",
		"(layout () () ())": "Name Ctx Expr Body",
		"(effect () () ())": "Name Ctx Expr Body",
		"(when a)":          "Name Ctx Deps Do Undo",
	} {
		for name, make := range set {
			if !contains(others, name) {
				continue
			}
			p := of(t, stated(s))
			make(&p[0].Body[0])
			fails(t, p, api.ErrArg, "%s with %s", s, name)
			p = of(t, stated("(let z 1) (when x "+s+" (let y 1))"))
			make(&p[0].Body[1].Body[0])
			fails(t, p, api.ErrArg, "%s within when, with %s", s, name)
		}
	}
	for i, e := range notNone {
		p := of(t, stated("(use a b) (layout () ((stop)) ()) (effect () () ((stop) (stop)))"))
		for j, at := range []*api.Expr{&p[0].Body[0].Expr, &p[0].Body[1].Expr, &p[0].Body[2].Expr, &p[0].Body[1].Do[0].Expr, &p[0].Body[2].Undo[1].Expr} {
			*at = e
			fails(t, p, api.ErrArg, "expression %d at %d", i, j)
			*at = zero
		}
	}
	for _, s := range []string{"(log 1)", "(fail 1)", "(stop)"} {
		p := of(t, shown("(do (stop) "+s+")"))
		p[0].Out.Acts[1].Name = "a"
		fails(t, p, api.ErrArg, "%s with a name", s)
	}
}

// notNone are expressions that are not zero, by a field each.
var notNone = []api.Expr{
	one, {Kind: api.ExBool}, {Kind: 200}, {N: 1}, {S: "a"}, {Args: []api.Expr{{}}}, {Names: []string{""}}, {Vals: []api.Expr{{}}}, {Elem: api.ElFrag},
	{Key: []api.Expr{{}}}, {Acts: []api.Act{{}}}, {Site: "App#0"},
}

// P5.1: kinds that are none of api's, and those that stand for none.
func TestWrongKinds(t *testing.T) {
	for k := range 256 {
		p := of(t, stated("(let a 1) (use b c) (layout () ((stop)) ())"))
		if k < int(api.StLet) || k > int(api.StWhen) {
			for i := range p[0].Body {
				q := of(t, stated("(let a 1) (use b c) (layout () ((stop)) ())"))
				q[0].Body[i].Kind = api.StmtKind(k)
				fails(t, q, api.ErrArg, "statement %d of the kind %d", i, k)
			}
			p[0].Body = []api.Stmt{{Kind: api.StmtKind(k)}}
			fails(t, p, api.ErrArg, "a bare statement of the kind %d", k)
		}
		if k < int(api.AcSet) || k > int(api.AcStop) {
			for _, a := range []api.Act{{}, {Name: "a"}, {Expr: one}, {Name: "a", Expr: one}} {
				a.Kind = api.ActKind(k)
				q := of(t, shown("(do (stop) (stop) (stop))"))
				q[0].Out.Acts[1] = a
				fails(t, q, api.ErrArg, "an act of the kind %d", k)
			}
		}
		if k > int(api.ExDeed) {
			for _, s := range exprTexts() {
				q := of(t, shown(s))
				q[0].Out.Kind = api.ExprKind(k)
				fails(t, q, api.ErrArg, "%s with the kind %d", s, k)
			}
			fails(t, api.Program{{Name: "App", Param: "p", Out: api.Expr{Kind: api.ExprKind(k)}}}, api.ErrArg, "a bare expression of the kind %d", k)
		}
		if k < int(api.ElHost) || k > int(api.ElWait) {
			for _, s := range []string{"(host - a ())", "(frag -)", "(portal k a)", "(give - a 1)", "(guard - a b)", "(wait - a)"} {
				q := of(t, shown(s))
				q[0].Out.Elem = api.ElemKind(k)
				fails(t, q, api.ErrArg, "%s with the element kind %d", s, k)
			}
		}
	}
}

// P5.1: components that are none of a text's, ahead of others, among them and behind them.
func TestWrongComponents(t *testing.T) {
	good := of(t, "(comp A p (show (do)))\n(comp A p (show (do)))\n(comp B q (let a 1) (show a))\n")
	for i, c := range []api.Component{
		{}, {Name: "A"}, {Param: "p"}, {Name: "no", Param: "p"}, {Name: "A", Param: "-"}, {Name: "A", Param: "p", Body: []api.Stmt{{}}},
		{Name: "A", Param: "p", Out: api.Expr{N: 1}}, {Name: "A", Param: "p", Out: api.Expr{Kind: api.ExName}}, {Name: "A", Param: "p", Out: api.Expr{Kind: api.ExDeed}},
	} {
		for at := range len(good) + 1 {
			p := append(append(append(api.Program{}, good[:at]...), c), good[at:]...)
			fails(t, p, api.ErrArg, "component %d at %d", i, at)
		}
	}
}
