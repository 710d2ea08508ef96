package parse_test

import (
	"fmt"
	"strings"
	"testing"

	"tapestry/api"
)

const (
	reserved = "yes no none -"
	keyWords = "if each read throw rec do host new pure frag portal give guard wait"
	others   = "comp show let state memo use layout effect when set log fail stop value again else Yes NO -- -a x on:click whenever sets comps"
)

// nameAt is a component with a hole %s where a NAME stands, and what it is with that name.
type nameAt struct {
	s    string
	want func(n string) api.Component
}

// namesAt: each place where a NAME stands.
func namesAt() []nameAt {
	expr := func(s string, want func(n string) api.Expr) nameAt {
		return nameAt{shown(s), func(n string) api.Component { return comp(want(n)) }}
	}
	stmt := func(s string, want func(n string) api.Stmt) nameAt {
		return nameAt{"(comp App p " + s + " (show none))", func(n string) api.Component { return comp(none(), want(n)) }}
	}
	l := []nameAt{
		{"(comp %s p (show none))", func(n string) api.Component { return api.Component{Name: n, Param: "p"} }},
		{"(comp App %s (show none))", func(n string) api.Component { return api.Component{Name: "App", Param: n} }},
		stmt("(let %s 1)", func(n string) api.Stmt { return let(n, number(1)) }),
		stmt("(state %s 1)", func(n string) api.Stmt { return api.Stmt{Kind: api.StState, Name: n, Expr: number(1)} }),
		stmt("(memo %s () 1)", func(n string) api.Stmt { return api.Stmt{Kind: api.StMemo, Name: n, Expr: number(1)} }),
		stmt("(use %s c)", func(n string) api.Stmt { return api.Stmt{Kind: api.StUse, Name: n, Ctx: "c"} }),
		stmt("(use c %s)", func(n string) api.Stmt { return api.Stmt{Kind: api.StUse, Name: "c", Ctx: n} }),
		stmt("(effect () () ((set %s 1)))", func(n string) api.Stmt { return api.Stmt{Kind: api.StEffect, Undo: acts(set(n, number(1)))} }),
		expr("(do (set %s 1))", func(n string) api.Expr { return deed("App#0", set(n, number(1))) }),
		expr("(each %s 1 2)", func(n string) api.Expr { return api.Expr{Kind: api.ExEach, S: n, Args: exprs(number(1), number(2))} }),
		expr("(rec (%s 1))", func(n string) api.Expr { return record(names(n), number(1)) }),
		expr("(rec (a 1) (%s 2) (b 3))", func(n string) api.Expr { return record(names("a", n, "b"), number(1), number(2), number(3)) }),
		expr("(portal - %s)", func(n string) api.Expr { return elem(api.ElPortal, n, nil, nil, nil) }),
		expr("(give - %s 1)", func(n string) api.Expr { return elem(api.ElGive, n, nil, names("value"), exprs(number(1))) }),
	}
	for word, k := range map[string]api.ElemKind{"host": api.ElHost, "new": api.ElComp, "pure": api.ElMemo} {
		l = append(l, expr("("+word+" - %s ())", func(n string) api.Expr { return elem(k, n, nil, nil, nil) }),
			expr("("+word+" - a ((%s 1)))", func(n string) api.Expr { return elem(k, "a", nil, names(n), exprs(number(1))) }))
	}
	return l
}

// P4.1: where a NAME stands, each name may stand but those four; a text, a number, a parenthesis may not.
func TestNames(t *testing.T) {
	for _, p := range namesAt() {
		good := append(strings.Fields(keyWords+" "+others), long(api.MaxText))
		for _, n := range good {
			parses(t, fmt.Sprintf(p.s, n), p.want(n))
		}
		for _, n := range append(strings.Fields(reserved), `"a"`, `"if"`, "5", "-5", "(", ")", "(a)", `""`) {
			s := strings.ReplaceAll(p.s, "%s", "\n"+n+"\n")
			fails(t, s, 1, api.ErrSyntax)
		}
		fails(t, fmt.Sprintf(p.s, "\n"+long(api.MaxText+1)), 1, api.ErrWord)
	}
}

// P4.1: as an OP may stand each name but those four and the key words, which begin rows of their own.
func TestOps(t *testing.T) {
	for _, n := range append(strings.Fields(others), long(api.MaxText)) {
		comes(t, "("+n+")", op(n))
		comes(t, "("+n+" 1 x (f))", op(n, number(1), name("x"), op("f")))
	}
	for _, n := range append(strings.Fields(reserved), `"f"`, "5", "(", ")", "(f)", `""`) {
		fails(t, shown("(\n"+n+"\n)"), 1, api.ErrSyntax)
		fails(t, shown("(f (\n"+n+" 1 2))"), 1, api.ErrSyntax)
	}
	for _, n := range strings.Fields(keyWords) {
		if n == "rec" || n == "do" {
			continue // nothing need stand behind these
		}
		fails(t, shown("("+n+"\n)"), 1, api.ErrSyntax)
	}
	fails(t, shown("(rec\n1)"), 1, api.ErrSyntax)
	fails(t, shown("(do\n1)"), 1, api.ErrSyntax)
	comes(t, "(if2)", op("if2"))
	comes(t, "(do- -do do:)", op("do-", name("-do"), name("do:")))
}

// P4.1: as an expression may stand each name but `-`; three of them are no names there.
func TestNamesAsExprs(t *testing.T) {
	for _, n := range append(strings.Fields(keyWords+" "+others), long(api.MaxText)) {
		comes(t, n, name(n))
		comes(t, "(f 1 "+n+")", op("f", number(1), name(n)))
	}
	for _, p := range []string{"%s", "(f %s)", "(if %s 1 2)", "(each x 1 %s)", "(read %s)", "(rec (a %s))", "(do (log %s))", "(frag - %s)", "(host - a ((b %s)))", "(give - a %s)", "(guard - 1 %s)", "(wait - %s)"} {
		fails(t, shown(fmt.Sprintf(p, "\n-\n")), 1, api.ErrSyntax)
	}
	comes(t, "(f yes no none)", op("f", yes(), no(), none()))
	comes(t, `(f "yes" "no" "none" "-")`, op("f", text("yes"), text("no"), text("none"), text("-")))
}

// P4.1: as a key may stand `-`, which is none, and each expression.
func TestKeys(t *testing.T) {
	for word, s := range map[string]string{"host": "a ()", "new": "a ()", "pure": "a ()", "frag": "", "portal": "a", "give": "a 1", "guard": "1 2", "wait": "1"} {
		for key, want := range map[string][]api.Expr{"-": nil, `"-"`: exprs(text("-")), "none": exprs(none()), "yes": exprs(yes()), "no": exprs(no()), "--": exprs(name("--")), "key": exprs(name("key")),
			"0": exprs(number(0)), "-1": exprs(number(-1)), `""`: exprs(text("")), "(-a)": exprs(op("-a")), "(frag -)": exprs(elem(api.ElFrag, "", nil, nil, nil))} {
			text := shown("(" + word + " " + key + " " + s + ")")
			p := got(t, text)
			if len(p) != 1 || p[0].Out.Kind != api.ExElem || !sameExprs(p[0].Out.Key, want) {
				t.Errorf("%s: %s", text, tell(p))
			}
		}
		fails(t, shown("("+word+"\n)"), 1, api.ErrSyntax)
		fails(t, shown("("+word+" (\n-) "+s+")"), 1, api.ErrSyntax)
	}
	fails(t, shown("(frag - \n-)"), 1, api.ErrSyntax)
	fails(t, shown("(host - \n- ())"), 1, api.ErrSyntax)
}

// P4.1: the words that begin a component, a statement and an act are names, and just these.
func TestWordsAsTheyStand(t *testing.T) {
	for _, n := range strings.Fields(keyWords + " " + others + " " + reserved + ` "comp" "show" "let" "set" 5 ( )`) {
		if n != "comp" {
			fails(t, "(\n"+n+" App p (show none))", 1, api.ErrSyntax)
		}
		if !strings.Contains(" show let state memo use layout effect when ", " "+n+" ") {
			fails(t, "(comp App p (\n"+n+" x 1) (show none))", 1, api.ErrSyntax)
		}
		if !strings.Contains(" let state memo use layout effect when ", " "+n+" ") {
			fails(t, "(comp App p (when 1 (\n"+n+" x 1)) (show none))", 1, api.ErrSyntax)
		}
		if !strings.Contains(" set log fail stop ", " "+n+" ") {
			fails(t, shown("(do (\n"+n+" x 1))"), 1, api.ErrSyntax)
			fails(t, "(comp App p (layout () ((\n"+n+" x 1)) ()) (show none))", 1, api.ErrSyntax)
		}
	}
}
