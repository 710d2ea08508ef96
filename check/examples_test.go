package check_test

import (
	"strings"
	"testing"

	"tapestry/api"
)

// P6.1: the chapter's examples.
func TestExamples(t *testing.T) {
	const a = "(comp App p (show none))"
	comes(t, api.OK, a)
	comesOf(t, api.ErrName, nil, "nil")
	comesOf(t, api.ErrName, api.Program{}, "none")
	comes(t, api.ErrName, a+a)
	comes(t, api.ErrName, "(comp B p (show none))")
	comes(t, api.OK, "(comp App p (let x p) (let y x) (show y))")
	comes(t, api.ErrName, "(comp App p (let x p) (let y x) (show z))")
	comes(t, api.ErrName, "(comp App p (let x p) (let y x) (let x 1) (show y))")
	comes(t, api.ErrName, "(comp App p (let x p) (let y x) (let p 1) (show y))")
	comes(t, api.OK, "(comp App p (when p (let x 1)) (show x))")
	comes(t, api.ErrName, "(comp App p (let x x) (show x))")
	comes(t, api.OK, "(comp App p (show (each x p x)))")
	comes(t, api.ErrName, "(comp App p (show (each x x x)))")
	comes(t, api.OK, "(comp App p (show (do (log it))))")
	comes(t, api.ErrName, "(comp App p (show it))")
	comes(t, api.ErrName, "(comp App p (show (do (set s 1))))")
	comes(t, api.OK, "(comp App p (state s 0) (show (do (set s 1))))")
	comes(t, api.ErrName, "(comp App p (let s 0) (show (do (set s 1))))")
	for s, want := range map[string]api.Errno{
		"(add 1 2)": api.OK, "(add 1)": api.ErrName, "(and)": api.ErrName, "(or 1)": api.OK, "(foo)": api.ErrName,
		"(new - App ())": api.OK, "(pure - B ())": api.ErrName, "(rec (a 1) (a 2))": api.ErrName,
	} {
		comes(t, want, plain("", s))
	}
	comesOf(t, api.ErrArg, api.Program{{Name: "App", Param: "p", Out: api.Expr{Kind: api.ExBool, N: 2}}}, "a Bool 2")
	comes(t, api.ErrLimit, plain("", "(list"+strings.Repeat(" 1", 4095)+")"))
	comes(t, api.OK, plain("", "(list"+strings.Repeat(" 1", 4094)+")"))
}

// P6.1: whole programs may be.
func TestWhole(t *testing.T) {
	for _, s := range whole() {
		comes(t, api.OK, s)
	}
	for _, s := range everywhere("p") {
		comes(t, api.OK, s)
	}
	for _, s := range everyAct("(stop)") {
		comes(t, api.OK, s)
	}
}

// P6.1: by hand, a program with each kind of statements, acts and expressions; parse has no part in it.
func TestByHand(t *testing.T) {
	name := func(s string) api.Expr { return api.Expr{Kind: api.ExName, S: s} }
	l := func(l ...api.Expr) []api.Expr { return l }
	acts := []api.Act{{Kind: api.AcSet, Name: "s", Expr: name("it")}, {Kind: api.AcStop}}
	elem := func(k api.ElemKind, s string, names []string, vals, args []api.Expr) api.Expr {
		return api.Expr{Kind: api.ExElem, Elem: k, S: s, Names: names, Vals: vals, Args: args}
	}
	build := func() api.Program {
		return api.Program{{Name: "App", Param: "p", Body: []api.Stmt{
			{Kind: api.StLet, Name: "a", Expr: name("p")},
			{Kind: api.StState, Name: "s", Expr: api.Expr{Kind: api.ExDeed, Site: "App#0", Acts: acts}},
			{Kind: api.StMemo, Name: "m", Deps: l(name("a"), name("s")), Expr: name("s")},
			{Kind: api.StUse, Name: "u", Ctx: "c"},
			{Kind: api.StLayout, Deps: l(name("u")), Do: acts},
			{Kind: api.StWhen, Expr: name("m"), Body: []api.Stmt{{Kind: api.StLet, Name: "b", Expr: name("u")}, {Kind: api.StEffect, Undo: acts}}},
		}, Out: elem(api.ElGuard, "", []string{"again", "else"}, l(name("b"), name("a")), l(
			api.Expr{Kind: api.ExEach, S: "e", Args: l(name("b"), name("e"))},
			elem(api.ElMemo, "B", []string{"a", "b"}, l(name("m"), name("u")), nil),
			api.Expr{Kind: api.ExRec, Names: []string{"a", "b"}, Vals: l(name("m"), name("u"))},
			api.Expr{Kind: api.ExOp, S: "add", Args: l(name("m"), name("u"))},
		))}, {Name: "B", Param: "q", Out: name("q")}}
	}
	comesOf(t, api.OK, build(), "by hand")
	for i, wrong := range []func(p api.Program){
		func(p api.Program) { p[0].Body[0].Expr.S = "a" },
		func(p api.Program) { p[0].Body[0].Name = "p" },
		func(p api.Program) { p[0].Body[1].Name = "p" },
		func(p api.Program) { p[0].Body[2].Name = "a" },
		func(p api.Program) { p[0].Body[3].Name = "m" },
		func(p api.Program) { p[0].Body[2].Deps[1].S = "m" },
		func(p api.Program) { p[0].Body[2].Expr.S = "m" },
		func(p api.Program) { p[0].Body[4].Deps[0].S = "b" },
		func(p api.Program) { p[0].Body[5].Expr.S = "b" },
		func(p api.Program) { p[0].Body[5].Body[0].Name = "u" },
		func(p api.Program) { acts[0].Name = "a" },
		func(p api.Program) { acts[0].Expr.S = "its" },
		func(p api.Program) { p[0].Out.Args[0].Args[0].S = "e" },
		func(p api.Program) { p[0].Out.Args[1].S = "C" },
		func(p api.Program) { p[0].Out.Args[1].Names[1] = "a" },
		func(p api.Program) { p[0].Out.Args[2].Names[0] = "b" },
		func(p api.Program) { p[0].Out.Args[3].S = "not" },
		func(p api.Program) { p[0].Out.Args[3].Args = p[0].Out.Args[3].Args[1:] },
		func(p api.Program) { p[1].Out.S = "p" },
		func(p api.Program) { p[1].Name = "App" },
		func(p api.Program) { p[1].Name = "C" },
	} {
		was := acts[0]
		p := build()
		wrong(p)
		comesOf(t, api.ErrName, p, "by hand, %d", i)
		acts[0] = was
	}
}
