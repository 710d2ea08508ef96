package parse_test

import (
	"testing"

	"tapestry/api"
	"tapestry/parse"
	"tapestry/value"
)

const empty = "(comp App p (show none))"

// P4.1: the chapter's examples.
func TestExamples(t *testing.T) {
	parses(t, "")
	parses(t, empty, api.Component{Name: "App", Param: "p"})
	parses(t, `(comp B p (state n 0) (effect (n) ((log n)) ()) (show (host - div ((id 5)) n "x")))`, api.Component{
		Name:  "B",
		Param: "p",
		Body: []api.Stmt{
			{Kind: api.StState, Name: "n", Expr: api.Expr{Kind: api.ExInt}},
			{Kind: api.StEffect, Deps: exprs(name("n")), Do: acts(api.Act{Kind: api.AcLog, Expr: name("n")})},
		},
		Out: api.Expr{Kind: api.ExElem, Elem: api.ElHost, S: "div", Names: names("id"), Vals: exprs(number(5)), Args: exprs(name("n"), text("x"))},
	})
	parses(t, `(comp C p (let f (do (set s (do)))) (show (do (stop))))`, api.Component{
		Name:  "C",
		Param: "p",
		Body:  []api.Stmt{{Kind: api.StLet, Name: "f", Expr: deed("C#0", set("s", deed("C#1")))}},
		Out:   deed("C#2", stop()),
	})
	fails(t, "(comp App p)", 0, api.ErrSyntax)
	fails(t, "(comp yes p (show none))", 0, api.ErrSyntax)
	fails(t, empty+"\nx", 1, api.ErrSyntax)
	fails(t, "(comp App p (show (if 1 2)))", 0, api.ErrSyntax)
	fails(t, "(comp App p\n(show none)", 1, api.ErrSyntax)
	fails(t, "(comp App p (show -))", 0, api.ErrSyntax)
	fails(t, ",", 0, api.ErrWord)
}

// P4.2: the chapter's examples.
func TestValueExamples(t *testing.T) {
	v, errno := parse.Value(`{"a" [1 none]}`)
	want := api.Value{Kind: api.Record, F: []api.Field{{Name: "a", Value: api.Value{Kind: api.List, L: []api.Value{{Kind: api.Int, N: 1}, {}}}}}}
	if errno != api.OK || !value.Same(v, want) {
		t.Errorf("%+v, %d", v, errno)
	}
	for _, s := range []string{`{"b" 1 "a" 2}`, `[1  2]`, `01`, `<frag "" {} []>`} {
		if v, errno := parse.Value(s); errno != api.ErrSyntax || !value.Same(v, api.Value{}) {
			t.Errorf("%s: %+v, %d", s, v, errno)
		}
	}
}
