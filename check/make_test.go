package check_test

import (
	"fmt"
	"reflect"
	"strings"
	"testing"

	"tapestry/api"
	"tapestry/check"
	"tapestry/parse"
)

// of is the program of a text.
func of(t *testing.T, s string) api.Program {
	t.Helper()
	p, line, errno := parse.Parse(s)
	if errno != api.OK {
		t.Fatalf("%.300q: error %d in the line %d", s, errno, line)
	}
	return p
}

// comes: is this what Check answers of a text's program?
func comes(t *testing.T, want api.Errno, s string) {
	t.Helper()
	comesOf(t, want, of(t, s), "%.300q", s)
}

func comesOf(t *testing.T, want api.Errno, p api.Program, why string, args ...any) {
	t.Helper()
	if errno := check.Check(p); errno != want {
		t.Errorf("%s: error %d, want %d", fmt.Sprintf(why, args...), errno, want)
	}
}

// truly is OK, or ErrName.
func truly(ok bool) api.Errno {
	if ok {
		return api.OK
	}
	return api.ErrName
}

// framed is an App with the param p and a state s ahead, and a component B behind it.
func framed(body, out string) string {
	return "(comp App p (state s 0) " + body + " (show " + out + "))\n(comp B q (show none))\n"
}

func shown(s string) string { return framed("", s) }

func stated(s string) string { return framed(s, "none") }

// plain is an App with the param p alone.
func plain(body, out string) string { return "(comp App p " + body + " (show " + out + "))\n" }

func put(s, around string) string { return strings.ReplaceAll(around, "%", s) }

// aroundExpr: each place of an expression where another one stands right in it, or in an act right in it; all names within a frame are as they should be.
func aroundExpr() []string {
	l := []string{
		"(list %)", "(list 1 % 2)", "(list 1 2 %)", "(and %)", "(or p %)", "(cat 1 %)", "(if % 1 2)", "(if 1 % 2)", "(if 1 2 %)",
		"(each e % 1)", "(each e p %)", "(read %)", "(throw %)", "(rec (a %))", "(rec (a 1) (b %) (c 2))",
		"(do (set s %))", "(do (stop) (log %))", "(do (log 1) (fail %) (stop))",
		"(frag %)", "(frag - %)", "(frag 1 2 %)", "(portal % a)", "(portal - a %)", "(portal 1 a 2 %)",
		"(give % a 1 2)", "(give - a %)", "(give - a 1 %)", "(give 1 a 2 3 %)", "(guard % 1 2 3)", "(guard - % 1)", "(guard - 1 %)", "(guard - 1 2 %)", "(guard 1 2 3 4 %)",
		"(wait % 1 2)", "(wait - %)", "(wait - 1 %)", "(wait 1 2 3 %)",
	}
	for _, word := range []string{"host", "new", "pure"} {
		l = append(l, put(word, "(% "), put(word, "(% - B "), put(word, "(% - B "), put(word, "(% - B "), put(word, "(% 1 B "))
		for i, rest := range []string{"% B ())", "((a %)))", "((a 1) (b %) (c 2)) 3)", "() %)", "((a 1)) 2 % 3)"} {
			l[len(l)-5+i] += rest
		}
	}
	return l
}

// levels that the % lies below an expression around it.
func levels(around string) int {
	if strings.HasPrefix(around, "(do ") {
		return 2
	}
	return 1
}

// inStmt: a statement with an expression in it, and how deep that lies in a program.
type inStmt struct {
	text string
	deep int
}

// aroundInStmt: each place of a statement where an expression stands right in it, in an act right in it, or in one of those of its body.
func aroundInStmt() []inStmt {
	return []inStmt{
		{"(let m1 %)", 3}, {"(state m1 %)", 3}, {"(memo m1 (%) 1)", 3}, {"(memo m1 (1 %) 2)", 3}, {"(memo m1 () %)", 3}, {"(memo m1 (1 2) %)", 3},
		{"(layout (%) () ())", 3}, {"(layout (1 %) ((stop)) ((stop)))", 3}, {"(layout () ((log %)) ())", 4}, {"(layout (1) ((stop) (set s %)) ())", 4}, {"(layout () () ((fail %)))", 4},
		{"(effect (%) () ())", 3}, {"(effect (1 %) ((stop)) ((stop)))", 3}, {"(effect () ((fail %)) ())", 4}, {"(effect () () ((log %)))", 4}, {"(effect (1) () ((stop) (set s %) (stop)))", 4},
		{"(when %)", 3}, {"(when % (use m1 c))", 3}, {"(when p (let m1 %))", 4}, {"(when p (use m2 c) (when %))", 4}, {"(when p (when p (memo m1 () %)))", 5},
		{"(when p (let m1 1) (effect (%) () ()))", 4}, {"(when p (when p (layout () ((log %)) ())))", 6}, {"(use m1 b) (let m3 %) (use m4 e)", 3},
	}
}

// everywhere are programs with an expression in each place where one stands.
func everywhere(s string) []string {
	l := []string{shown(s)}
	for _, a := range aroundExpr() {
		l = append(l, shown(put(s, a)), stated("(let z "+put(s, a)+")"), shown(put(put(s, "(list p %)"), a)))
		for _, b := range []string{"(list %)", "(rec (a %))", "(do (log %))", "(frag % 1)", "(each e p %)"} {
			l = append(l, shown(put(put(s, a), b)))
		}
	}
	for _, a := range aroundInStmt() {
		l = append(l, stated(put(s, a.text)), stated(put(put(s, "(do (log (list p %)))"), a.text)))
	}
	return l
}

// everyAct are programs with an act in each place where one stands.
func everyAct(s string) []string {
	var l []string
	for _, a := range []string{"(layout () (%) ())", "(layout () () (%))", "(layout (1) ((stop) % (stop)) ((stop) (log 1)))", "(effect () (%) ())", "(effect () () (%))", "(effect (1) ((stop)) ((stop) %))",
		"(when p (layout () () (%)))", "(when p (when p (effect () ((stop) %) ())))"} {
		l = append(l, stated(put(s, a)))
	}
	for _, a := range []string{"(do %)", "(do (stop) % (stop))", "(do (log (do %)))"} {
		l = append(l, everywhere(put(s, a))...)
	}
	return l
}

// places visits all that can be set in what v holds, from above.
func places(v reflect.Value, visit func(v reflect.Value)) {
	visit(v)
	switch v.Kind() {
	case reflect.Slice:
		for i := range v.Len() {
			places(v.Index(i), visit)
		}
	case reflect.Struct:
		for i := range v.NumField() {
			places(v.Field(i), visit)
		}
	}
}

// whole are programs that may be, with each row of the grammar within.
func whole() []string {
	return []string{
		"(comp App p (show none))\n",
		"(comp B q (let a 5) (show a))\n(comp App p (show (new - B ())))\n",
		"(comp App p (let a p) (state b (add a 1)) (use c d) (memo e (a b) (list c)) (show (list a b c e)))\n",
		"(comp App p (state s 0) (layout () () ()) (layout (s) ((set s (add it 1)) (stop)) ((log it))) (effect (p) ((fail it)) ((set s s))) (show s))\n",
		"(comp App p (when p (let a 1) (when a (state b a) (use c d)) (let e b)) (show (list a b c e)))\n",
		"(comp App p (show (list (if p 1 2) (each x p (each y x (list x y p))) (read p) (throw \"a\") (and p) (or p yes) (not no))))\n",
		"(comp App p (state s 0) (let a (do)) (show (rec (a (do (set s (do (log it) (set s it))) (stop))) (b a))))\n",
		"(comp App p (show (host - div ((on:click (do (log it))) (id p)) (host p div ((id 1)) \"y\"))))\n",
		"(comp C p (show (pure p C ((c p)) 5)))\n(comp B p (show (new - C ((c p) (d (new - App ()))))))\n(comp App p (show (pure - B () (new - B ()))))\n",
		"(comp App p (show (frag - (frag p 1) (portal - a p) (portal p b) (give - c p (give p d 1)))))\n",
		"(comp App p (show (guard - p (list p) (wait - p (wait p 1 (guard p 1 2 3))))))\n",
		"(comp App it (use x c) (show (list it x (each it it it) (do (log (list it x))))))\n",
	}
}

// eachExpr visits the expressions of a program, also those that a row does not name.
func eachExpr(p api.Program, visit func(e *api.Expr)) {
	var all []*api.Expr
	places(reflect.ValueOf(&p).Elem(), func(v reflect.Value) {
		if v.Type() == reflect.TypeFor[api.Expr]() {
			all = append(all, v.Addr().Interface().(*api.Expr))
		}
	})
	for _, e := range all {
		visit(e)
	}
}
