package parse_test

import (
	"strings"
	"testing"

	"tapestry/api"
)

// exprRow is an expression's text, and what it is; the sites of its deeds are left to numbered.
type exprRow struct {
	s    string
	want api.Expr
}

// exprRows: each row of expr, with lists of none, one and many.
func exprRows() []exprRow {
	l := []exprRow{
		{"0", number(0)}, {"5", number(5)}, {"-17", number(-17)}, {"9223372036854775807", number(1<<63 - 1)}, {"-9223372036854775808", number(-1 << 63)},
		{`""`, text("")}, {`"a b"`, text("a b")}, {`"yes"`, text("yes")}, {`"-"`, text("-")}, {`"\"\\\n;("`, text("\"\\\n;(")},
		{"yes", yes()}, {"no", no()}, {"none", none()},
		{"x", name("x")}, {"on:click", name("on:click")}, {"--", name("--")}, {"Yes", name("Yes")}, {"if", name("if")}, {"do", name("do")},
		{"(f)", op("f")}, {"(add 1)", op("add", number(1))}, {`(cat a "b" 3 none)`, op("cat", name("a"), text("b"), number(3), none())},
		{"(comp a b)", op("comp", name("a"), name("b"))}, {"(let x 5)", op("let", name("x"), number(5))}, {"(show (stop))", op("show", op("stop"))},
		{"(if a 1 2)", api.Expr{Kind: api.ExIf, Args: exprs(name("a"), number(1), number(2))}},
		{"(each x l 5)", api.Expr{Kind: api.ExEach, S: "x", Args: exprs(name("l"), number(5))}},
		{`(read "k")`, api.Expr{Kind: api.ExRead, Args: exprs(text("k"))}},
		{"(throw none)", api.Expr{Kind: api.ExThrow, Args: exprs(none())}},
		{"(rec)", record(nil)}, {"(rec (a 1))", record(names("a"), number(1))},
		{"(rec (b 1) (a x) (a yes) (rec (f)))", record(names("b", "a", "a", "rec"), number(1), name("x"), yes(), op("f"))},
		{"(do)", deed("")}, {"(do (stop))", deed("", stop())}, {"(do (set s 1) (log x) (fail no) (stop))", deed("", set("s", number(1)), log(name("x")), fail(no()), stop())},
		{"(do (set s (do (log (do)))) (log (do)))", deed("", set("s", deed("", log(deed("")))), log(deed("")))},
		{"(frag -)", elem(api.ElFrag, "", nil, nil, nil)}, {"(frag 1)", elem(api.ElFrag, "", exprs(number(1)), nil, nil)},
		{`(frag "-" 1)`, elem(api.ElFrag, "", exprs(text("-")), nil, nil, number(1))},
		{"(frag (f) 1 x (g))", elem(api.ElFrag, "", exprs(op("f")), nil, nil, number(1), name("x"), op("g"))},
		{"(frag none none)", elem(api.ElFrag, "", exprs(none()), nil, nil, none())},
		{"(portal - top)", elem(api.ElPortal, "top", nil, nil, nil)}, {"(portal yes host 1)", elem(api.ElPortal, "host", exprs(yes()), nil, nil, number(1))},
		{`(portal x side 1 none "a")`, elem(api.ElPortal, "side", exprs(name("x")), nil, nil, number(1), none(), text("a"))},
		{"(give - c 1)", elem(api.ElGive, "c", nil, names("value"), exprs(number(1)))},
		{"(give k value v 1)", elem(api.ElGive, "value", exprs(name("k")), names("value"), exprs(name("v")), number(1))},
		{"(give no c (f) 1 2 3)", elem(api.ElGive, "c", exprs(no()), names("value"), exprs(op("f")), number(1), number(2), number(3))},
		{"(guard - 1 2)", elem(api.ElGuard, "", nil, names("again", "else"), exprs(number(1), number(2)))},
		{"(guard else again x 3)", elem(api.ElGuard, "", exprs(name("else")), names("again", "else"), exprs(name("again"), name("x")), number(3))},
		{"(guard (f) none no 3 4 5)", elem(api.ElGuard, "", exprs(op("f")), names("again", "else"), exprs(none(), no()), number(3), number(4), number(5))},
		{"(wait - 1)", elem(api.ElWait, "", nil, names("else"), exprs(number(1)))},
		{"(wait 1 2 3)", elem(api.ElWait, "", exprs(number(1)), names("else"), exprs(number(2)), number(3))},
		{"(wait (rec) (rec (a 1)) x y z)", elem(api.ElWait, "", exprs(record(nil)), names("else"), exprs(record(names("a"), number(1))), name("x"), name("y"), name("z"))},
	}
	for word, k := range map[string]api.ElemKind{"host": api.ElHost, "new": api.ElComp, "pure": api.ElMemo} {
		l = append(l,
			exprRow{"(" + word + " - a ())", elem(k, "a", nil, nil, nil)},
			exprRow{"(" + word + " - div () 1)", elem(k, "div", nil, nil, nil, number(1))},
			exprRow{"(" + word + ` (f x) ` + word + ` ((id 5)) a "b" (g))`, elem(k, word, exprs(op("f", name("x"))), names("id"), exprs(number(5)), name("a"), text("b"), op("g"))},
			exprRow{"(" + word + ` k Row ((on:x (do)) (b (f)) (a none)) none)`, elem(k, "Row", exprs(name("k")), names("on:x", "b", "a"), exprs(deed(""), op("f"), none()), none())},
		)
	}
	return l
}

// actRow is an act's text, and what it is.
type actRow struct {
	s    string
	want api.Act
}

// actRows: each row of act, with each row of expr.
func actRows() []actRow {
	l := []actRow{{"(stop)", stop()}}
	for _, r := range exprRows() {
		l = append(l, actRow{"(set n " + r.s + ")", set("n", r.want)}, actRow{"(log " + r.s + ")", log(r.want)}, actRow{"(fail " + r.s + ")", fail(r.want)})
	}
	return l
}

// stmtRow is a statement's text, and what it is.
type stmtRow struct {
	s    string
	want api.Stmt
}

// stmtsOf: each row of stmt with an expression, in each place where one stands.
func stmtsOf(r exprRow) []stmtRow {
	s, e := r.s, r.want
	l := []stmtRow{
		{"(let a " + s + ")", let("a", e)},
		{"(state b " + s + ")", api.Stmt{Kind: api.StState, Name: "b", Expr: e}},
		{"(memo c () " + s + ")", api.Stmt{Kind: api.StMemo, Name: "c", Expr: e}},
		{"(memo c (" + s + ") 1)", api.Stmt{Kind: api.StMemo, Name: "c", Deps: exprs(e), Expr: number(1)}},
		{"(memo c (x " + s + " y) " + s + ")", api.Stmt{Kind: api.StMemo, Name: "c", Deps: exprs(name("x"), e, name("y")), Expr: e}},
		{"(when " + s + ")", api.Stmt{Kind: api.StWhen, Expr: e}},
		{"(when x (let a " + s + "))", api.Stmt{Kind: api.StWhen, Expr: name("x"), Body: []api.Stmt{let("a", e)}}},
		{"(when " + s + " (let a 1) (when " + s + ") (use d e))", api.Stmt{Kind: api.StWhen, Expr: e, Body: []api.Stmt{
			let("a", number(1)), {Kind: api.StWhen, Expr: e}, {Kind: api.StUse, Name: "d", Ctx: "e"}}}},
	}
	for word, k := range map[string]api.StmtKind{"layout": api.StLayout, "effect": api.StEffect} {
		l = append(l, stmtRow{"(" + word + " (" + s + ") () ())", api.Stmt{Kind: k, Deps: exprs(e)}},
			stmtRow{"(" + word + " (x " + s + ") ((stop)) ((stop) (stop)))", api.Stmt{Kind: k, Deps: exprs(name("x"), e), Do: acts(stop()), Undo: acts(stop(), stop())}})
	}
	return l
}

// stmtsOfAct: each row of stmt with an act, in each place where one stands.
func stmtsOfAct(r actRow) []stmtRow {
	s, a := r.s, r.want
	l := []stmtRow{{"(let a (do " + s + "))", let("a", deed("", a))}, {"(let a (do (stop) " + s + " (stop)))", let("a", deed("", stop(), a, stop()))}}
	for word, k := range map[string]api.StmtKind{"layout": api.StLayout, "effect": api.StEffect} {
		l = append(l, stmtRow{"(" + word + " () (" + s + ") ())", api.Stmt{Kind: k, Do: acts(a)}},
			stmtRow{"(" + word + " () () (" + s + "))", api.Stmt{Kind: k, Undo: acts(a)}},
			stmtRow{"(" + word + " () (" + s + " (stop)) ((stop) " + s + "))", api.Stmt{Kind: k, Do: acts(a, stop()), Undo: acts(stop(), a)}})
	}
	return l
}

// exprsOf: each row of expr with an expression within it, in each place where one stands.
func exprsOf(r exprRow) []exprRow {
	s, e := r.s, r.want
	l := []exprRow{
		{"(f " + s + ")", op("f", e)}, {"(f 1 " + s + " 2)", op("f", number(1), e, number(2))},
		{"(if " + s + " 1 2)", api.Expr{Kind: api.ExIf, Args: exprs(e, number(1), number(2))}},
		{"(if 1 " + s + " " + s + ")", api.Expr{Kind: api.ExIf, Args: exprs(number(1), e, e)}},
		{"(each x " + s + " 1)", api.Expr{Kind: api.ExEach, S: "x", Args: exprs(e, number(1))}},
		{"(each x 1 " + s + ")", api.Expr{Kind: api.ExEach, S: "x", Args: exprs(number(1), e)}},
		{"(read " + s + ")", api.Expr{Kind: api.ExRead, Args: exprs(e)}}, {"(throw " + s + ")", api.Expr{Kind: api.ExThrow, Args: exprs(e)}},
		{"(rec (a " + s + ") (b 1) (c " + s + "))", record(names("a", "b", "c"), e, number(1), e)},
		{"(do (set a " + s + ") (log " + s + ") (fail " + s + "))", deed("", set("a", e), log(e), fail(e))},
		{"(frag " + s + ")", elem(api.ElFrag, "", exprs(e), nil, nil)}, {"(frag - " + s + ")", elem(api.ElFrag, "", nil, nil, nil, e)},
		{"(frag " + s + " 1 " + s + ")", elem(api.ElFrag, "", exprs(e), nil, nil, number(1), e)},
		{"(portal " + s + " a 1 " + s + ")", elem(api.ElPortal, "a", exprs(e), nil, nil, number(1), e)},
		{"(give " + s + " a 1 2)", elem(api.ElGive, "a", exprs(e), names("value"), exprs(number(1)), number(2))},
		{"(give - a " + s + ")", elem(api.ElGive, "a", nil, names("value"), exprs(e))},
		{"(give - a 1 " + s + " 2)", elem(api.ElGive, "a", nil, names("value"), exprs(number(1)), e, number(2))},
		{"(guard " + s + " 1 2 3)", elem(api.ElGuard, "", exprs(e), names("again", "else"), exprs(number(1), number(2)), number(3))},
		{"(guard - " + s + " 2)", elem(api.ElGuard, "", nil, names("again", "else"), exprs(e, number(2)))},
		{"(guard - 1 " + s + " 2)", elem(api.ElGuard, "", nil, names("again", "else"), exprs(number(1), e), number(2))},
		{"(guard - 1 2 " + s + ")", elem(api.ElGuard, "", nil, names("again", "else"), exprs(number(1), number(2)), e)},
		{"(wait " + s + " 1 2)", elem(api.ElWait, "", exprs(e), names("else"), exprs(number(1)), number(2))},
		{"(wait - " + s + " 1)", elem(api.ElWait, "", nil, names("else"), exprs(e), number(1))},
		{"(wait - 1 " + s + ")", elem(api.ElWait, "", nil, names("else"), exprs(number(1)), e)},
	}
	for word, k := range map[string]api.ElemKind{"host": api.ElHost, "new": api.ElComp, "pure": api.ElMemo} {
		l = append(l, exprRow{"(" + word + " " + s + " a ())", elem(k, "a", exprs(e), nil, nil)},
			exprRow{"(" + word + " - a ((b " + s + ") (c 1)) 2)", elem(k, "a", nil, names("b", "c"), exprs(e, number(1)), number(2))},
			exprRow{"(" + word + " - a ((b 1) (c " + s + ")) " + s + " 2 " + s + ")", elem(k, "a", nil, names("b", "c"), exprs(number(1), e), e, number(2), e)})
	}
	return l
}

// P4.1: each row of expr alone, and within each row of expr that can hold it.
func TestExprRows(t *testing.T) {
	for _, r := range exprRows() {
		parses(t, shown(r.s), numbered(comp(r.want)))
		for _, w := range exprsOf(r) {
			parses(t, shown(w.s), numbered(comp(w.want)))
		}
	}
}

// P4.1: each row of expr two deep within the others.
func TestExprRowsDeeper(t *testing.T) {
	for _, r := range exprRows()[20:30] {
		for _, w := range exprsOf(r) {
			for _, v := range exprsOf(w) {
				parses(t, shown(v.s), numbered(comp(v.want)))
			}
		}
	}
}

// P4.1: each row of stmt, with each row of expr and of act; alone, among others, and within `when`.
func TestStmtRows(t *testing.T) {
	l := []stmtRow{{"(use a b)", api.Stmt{Kind: api.StUse, Name: "a", Ctx: "b"}}, {"(use when let)", api.Stmt{Kind: api.StUse, Name: "when", Ctx: "let"}}}
	for _, r := range exprRows() {
		l = append(l, stmtsOf(r)...)
	}
	for _, r := range actRows() {
		l = append(l, stmtsOfAct(r)...)
	}
	use := stmtRow{"(use u v)", api.Stmt{Kind: api.StUse, Name: "u", Ctx: "v"}}
	for _, r := range l {
		parses(t, "(comp App p "+r.s+" (show none))", numbered(comp(none(), r.want)))
		parses(t, "(comp App p "+use.s+r.s+r.s+use.s+"(show x))", numbered(comp(name("x"), use.want, r.want, r.want, use.want)))
		when := api.Stmt{Kind: api.StWhen, Expr: name("y"), Body: []api.Stmt{r.want, use.want}}
		parses(t, "(comp App p (when y "+r.s+" "+use.s+") (show (do)))", numbered(comp(deed(""), when)))
	}
}

// P4.1: none, one and many components, in the order in which they stand.
func TestComponents(t *testing.T) {
	var all []string
	var want []api.Component
	parses(t, "")
	for _, n := range []string{"App", "comp", "show", "App", "a", "if", "--", "-x", "#"} {
		all = append(all, "(comp "+n+" q"+n+" (let "+n+" 5)\n(show "+n+"))")
		want = append(want, api.Component{Name: n, Param: "q" + n, Body: []api.Stmt{let(n, number(5))}, Out: name(n)})
		parses(t, strings.Join(all, ""), want...)
		parses(t, "; ahead\n"+strings.Join(all, "\n;between\n")+"\t;behind", want...)
	}
}
