package parse_test

import (
	"fmt"
	"reflect"
	"strings"
	"testing"

	"tapestry/api"
	"tapestry/parse"
)

// What the tests make programs by.

func none() api.Expr { return api.Expr{} }

func number(n int64) api.Expr { return api.Expr{Kind: api.ExInt, N: n} }

func yes() api.Expr { return api.Expr{Kind: api.ExBool, N: 1} }

func no() api.Expr { return api.Expr{Kind: api.ExBool} }

func text(s string) api.Expr { return api.Expr{Kind: api.ExText, S: s} }

func name(s string) api.Expr { return api.Expr{Kind: api.ExName, S: s} }

func op(s string, args ...api.Expr) api.Expr { return api.Expr{Kind: api.ExOp, S: s, Args: args} }

func deed(site string, acts ...api.Act) api.Expr {
	return api.Expr{Kind: api.ExDeed, Site: site, Acts: acts}
}

func record(names []string, vals ...api.Expr) api.Expr {
	return api.Expr{Kind: api.ExRec, Names: names, Vals: vals}
}

func elem(k api.ElemKind, s string, key []api.Expr, names []string, vals []api.Expr, args ...api.Expr) api.Expr {
	return api.Expr{Kind: api.ExElem, Elem: k, S: s, Key: key, Names: names, Vals: vals, Args: args}
}

func exprs(l ...api.Expr) []api.Expr { return l }

func names(l ...string) []string { return l }

func acts(l ...api.Act) []api.Act { return l }

func set(name string, e api.Expr) api.Act { return api.Act{Kind: api.AcSet, Name: name, Expr: e} }

func log(e api.Expr) api.Act { return api.Act{Kind: api.AcLog, Expr: e} }

func fail(e api.Expr) api.Act { return api.Act{Kind: api.AcFail, Expr: e} }

func stop() api.Act { return api.Act{Kind: api.AcStop} }

func let(name string, e api.Expr) api.Stmt { return api.Stmt{Kind: api.StLet, Name: name, Expr: e} }

// comp is a component App of p.
func comp(out api.Expr, body ...api.Stmt) api.Component {
	return api.Component{Name: "App", Param: "p", Body: body, Out: out}
}

// shown is the text of a component that shows s.
func shown(s string) string { return "(comp App p (show " + s + "))" }

// long is a text of n bytes.
func long(n int) string { return strings.Repeat("x", n) }

// parses: is this the program?
func parses(t *testing.T, s string, want ...api.Component) {
	t.Helper()
	p, line, errno := parse.Parse(s)
	if errno != api.OK || line != 0 || !same(p, want) {
		t.Errorf("%.200q: %.900s, line %d, error %d, want %.900s", s, tell(p), line, errno, tell(want))
	}
}

// comes: is this the expression?
func comes(t *testing.T, s string, want api.Expr) {
	t.Helper()
	parses(t, shown(s), comp(want))
}

// fails: is it that error in that line, and is there no program?
func fails(t *testing.T, s string, want int, wantErrno api.Errno) {
	t.Helper()
	p, line, errno := parse.Parse(s)
	if errno != wantErrno || line != want || len(p) > 0 {
		t.Errorf("%.200q: %.300s, line %d, error %d, want line %d, error %d", s, tell(p), line, errno, want, wantErrno)
	}
}

// same: are two programs the same? Lists that are empty and nil are.
func same(a, b api.Program) bool {
	return reflect.DeepEqual(plainProgram(a), plainProgram(b))
}

// tell need not tell an empty list from one that is nil.
func tell(p api.Program) string { return fmt.Sprintf("%+v", []api.Component(p)) }

// The plain ones are copies without lists that are empty and not nil.

func plain[T, U any](l []T, one func(T) U) []U {
	var all []U
	for _, x := range l {
		all = append(all, one(x))
	}
	return all
}

func plainProgram(p api.Program) []api.Component {
	return plain(p, func(c api.Component) api.Component {
		c.Body, c.Out = plain(c.Body, plainStmt), plainExpr(c.Out)
		return c
	})
}

func plainStmt(s api.Stmt) api.Stmt {
	s.Expr, s.Deps, s.Do = plainExpr(s.Expr), plain(s.Deps, plainExpr), plain(s.Do, plainAct)
	s.Undo, s.Body = plain(s.Undo, plainAct), plain(s.Body, plainStmt)
	return s
}

func plainAct(a api.Act) api.Act {
	a.Expr = plainExpr(a.Expr)
	return a
}

func plainExpr(e api.Expr) api.Expr {
	e.Args, e.Vals, e.Key = plain(e.Args, plainExpr), plain(e.Vals, plainExpr), plain(e.Key, plainExpr)
	e.Names, e.Acts = plain(e.Names, func(s string) string { return s }), plain(e.Acts, plainAct)
	return e
}

// numbered gives the deeds of a component their sites, in the order in which they stand in its text.
func numbered(c api.Component) api.Component {
	c = plainProgram(api.Program{c})[0] // a copy
	n := 0
	var ofExpr func(e *api.Expr)
	ofExprs := func(l []api.Expr) {
		for i := range l {
			ofExpr(&l[i])
		}
	}
	ofActs := func(l []api.Act) {
		for i := range l {
			ofExpr(&l[i].Expr)
		}
	}
	ofExpr = func(e *api.Expr) {
		if e.Kind == api.ExDeed {
			e.Site = fmt.Sprintf("%s#%d", c.Name, n)
			n++
		}
		ofExprs(e.Key)
		ofExprs(e.Vals)
		ofExprs(e.Args)
		ofActs(e.Acts)
	}
	var ofStmts func(l []api.Stmt)
	ofStmts = func(l []api.Stmt) {
		for i := range l {
			ofExprs(l[i].Deps)
			ofExpr(&l[i].Expr)
			ofActs(l[i].Do)
			ofActs(l[i].Undo)
			ofStmts(l[i].Body)
		}
	}
	ofStmts(c.Body)
	ofExpr(&c.Out)
	return c
}
