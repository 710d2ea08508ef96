package print_test

import (
	"testing"

	"tapestry/api"
	"tapestry/print"
)

// P5.1: the chapter's examples.
func TestExamples(t *testing.T) {
	tells(t, nil, "")
	tells(t, api.Program{}, "")
	tells(t, of(t, `(comp App p(let x -5)(show(host - div()x"a")))`), `(comp App p (let x -5) (show (host - div () x "a")))`+"\n")
	const effect = `(comp App p (effect () ((set s 1) (stop)) ()) (show (rec (a 1) (b yes))))`
	tells(t, of(t, effect), effect+"\n")
	for why, c := range map[string]api.Component{
		"the param yes":  {Name: "App", Param: "yes"},
		"a Bool 2":       {Name: "App", Param: "p", Out: api.Expr{Kind: api.ExBool, N: 2}},
		"another site":   {Name: "App", Param: "p", Out: api.Expr{Kind: api.ExDeed, Site: "App#1"}},
		"an ExIf of two": {Name: "App", Param: "p", Out: api.Expr{Kind: api.ExIf, Args: []api.Expr{{}, {}}}},
	} {
		fails(t, api.Program{c}, api.ErrArg, "%s", why)
	}
}

// P5.1: by hand, a program with each kind of statements, acts and expressions; parse has no part in it.
func TestByHand(t *testing.T) {
	none, x := api.Expr{}, api.Expr{Kind: api.ExName, S: "x"}
	one, five := api.Expr{Kind: api.ExInt, N: 1}, api.Expr{Kind: api.ExInt, N: -5}
	yes, no := api.Expr{Kind: api.ExBool, N: 1}, api.Expr{Kind: api.ExBool}
	hi := api.Expr{Kind: api.ExText, S: "a \"b\"\n\\"}
	l := func(l ...api.Expr) []api.Expr { return l }
	elem := func(k api.ElemKind, s string, key []api.Expr, names []string, vals []api.Expr, args ...api.Expr) api.Expr {
		return api.Expr{Kind: api.ExElem, Elem: k, S: s, Key: key, Names: names, Vals: vals, Args: args}
	}
	acts := []api.Act{{Kind: api.AcSet, Name: "s", Expr: one}, {Kind: api.AcLog, Expr: x}, {Kind: api.AcFail, Expr: none}, {Kind: api.AcStop}}
	p := api.Program{{Name: "App", Param: "p", Body: []api.Stmt{
		{Kind: api.StLet, Name: "a", Expr: one},
		{Kind: api.StState, Name: "s", Expr: api.Expr{Kind: api.ExDeed, Site: "App#0"}},
		{Kind: api.StMemo, Name: "m", Deps: l(x, one), Expr: hi},
		{Kind: api.StUse, Name: "u", Ctx: "c"},
		{Kind: api.StLayout, Deps: l(yes), Do: acts},
		{Kind: api.StEffect, Undo: acts[:1]},
		{Kind: api.StWhen, Expr: no, Body: []api.Stmt{{Kind: api.StWhen, Expr: x}, {Kind: api.StLet, Name: "b", Expr: five}}},
	}, Out: elem(api.ElFrag, "", nil, nil, nil,
		api.Expr{Kind: api.ExOp, S: "f"},
		api.Expr{Kind: api.ExOp, S: "f", Args: l(x, one)},
		api.Expr{Kind: api.ExIf, Args: l(yes, one, five)},
		api.Expr{Kind: api.ExEach, S: "e", Args: l(x, one)},
		api.Expr{Kind: api.ExRead, Args: l(x)},
		api.Expr{Kind: api.ExThrow, Args: l(x)},
		api.Expr{Kind: api.ExRec, Names: []string{"a", "b"}, Vals: l(one, x)},
		api.Expr{Kind: api.ExDeed, Acts: acts[3:], Site: "App#1"},
		elem(api.ElHost, "div", l(x), []string{"id"}, l(five), x, one),
		elem(api.ElComp, "B", nil, nil, nil),
		elem(api.ElMemo, "B", l(one), []string{"a", "b"}, l(none, no)),
		elem(api.ElPortal, "top", nil, nil, nil, x),
		elem(api.ElGive, "c", nil, []string{"value"}, l(one), x),
		elem(api.ElGuard, "", nil, []string{"again", "else"}, l(one, x), five),
		elem(api.ElWait, "", l(hi), []string{"else"}, l(one)),
	)}, {Name: "B", Param: "q", Out: api.Expr{Kind: api.ExDeed, Site: "B#0"}}}
	tells(t, p, `(comp App p (let a 1) (state s (do)) (memo m (x 1) "a \"b\"\n\\") (use u c)`+
		` (layout (yes) ((set s 1) (log x) (fail none) (stop)) ()) (effect () () ((set s 1))) (when no (when x) (let b -5))`+
		` (show (frag - (f) (f x 1) (if yes 1 -5) (each e x 1) (read x) (throw x) (rec (a 1) (b x)) (do (stop))`+
		` (host x div ((id -5)) x 1) (new - B ()) (pure 1 B ((a none) (b no))) (portal - top x) (give - c 1 x)`+
		` (guard - 1 x -5) (wait "a \"b\"\n\\" 1))))`+"\n(comp B q (show (do)))\n")
	// R5: once more it is the same.
	a, _ := print.Text(p)
	if b, errno := print.Text(p); a != b || errno != api.OK {
		t.Errorf("the second answer is another one: %q, error %d", b, errno)
	}
}
