package check_test

import (
	"strings"
	"testing"

	"tapestry/api"
	"tapestry/print"
)

// bad and long are numbers in whose place a text's program gets, by hand, what no text that may be tells.
const bad, long = "987654321", "123456789"

// faulty is a text's program, with what is wrong by hand.
func faulty(t *testing.T, s string) api.Program {
	t.Helper()
	p := of(t, s)
	eachExpr(p, func(e *api.Expr) {
		switch {
		case e.Kind == api.ExInt && e.N == 987654321:
			*e = api.Expr{Kind: api.ExBool, N: 2}
		case e.Kind == api.ExInt && e.N == 123456789:
			args := make([]api.Expr, 17)
			for i := range args {
				args[i] = api.Expr{Kind: api.ExText, S: strings.Repeat("x", 4000)}
			}
			*e = api.Expr{Kind: api.ExOp, S: "list", Args: args}
		}
	})
	return p
}

// fault: an expression with which something is wrong wherever it stands.
type fault struct {
	expr string
	want api.Errno
}

func faults() []fault {
	return []fault{
		{bad, api.ErrArg}, {"(list " + bad + ")", api.ErrArg}, {"(rec (a 1) (b " + bad + "))", api.ErrArg},
		{long, api.ErrLimit}, {"(list" + strings.Repeat(" 1", api.MaxNodes) + ")", api.ErrLimit}, {deepOf("1", api.MaxDeep), api.ErrLimit},
		{"x", api.ErrName}, {"(list it x)", api.ErrName}, {"(foo)", api.ErrName}, {"(add 1)", api.ErrName}, {"(and)", api.ErrName}, {"(new - C ())", api.ErrName}, {"(pure - C ())", api.ErrName},
		{"(rec (a 1) (a 2))", api.ErrName}, {"(host - div ((a 1) (a 1)))", api.ErrName}, {"(do (set r 1))", api.ErrName}, {"(each y y y)", api.ErrName},
	}
}

// P6.1: each answer alone, and two at once in each order: an error of print.Text ahead of limits, limits ahead of names.
func TestTwoAtOnce(t *testing.T) {
	t.Parallel()
	pairs := []string{
		"(comp App p (let a %1) (let b %2) (show none))", "(comp App p (let a %1) (show %2))", "(comp App p (show (list %1 %2)))", "(comp App p (when p (memo a (%1) 1)) (memo b () %2) (show none))",
		"(comp App p (show %1))\n(comp B p (show %2))", "(comp A p (show %1))\n(comp App p (show %2))", "(comp App p (effect (%1) () ()) (effect (%2) () ()) (show none))", "(comp App p (show (host %1 a () %2)))", "(comp App p (show (rec (a %1) (b %2))))",
	}
	for _, around := range pairs {
		fill := func(a, b string) string { return strings.NewReplacer("%1", a, "%2", b).Replace(around) }
		comesOf(t, api.OK, faulty(t, fill("1", "p")), "%s", around)
		for _, a := range faults() {
			comesOf(t, a.want, faulty(t, fill(a.expr, "1")), "%.50s ahead in %s", a.expr, around)
			comesOf(t, a.want, faulty(t, fill("1", a.expr)), "%.50s behind in %s", a.expr, around)
			for _, b := range faults() {
				// By their numbers, they go ahead of one another as the chapter says.
				want := min(a.want, b.want)
				comesOf(t, want, faulty(t, fill(a.expr, b.expr)), "%.50s and %.50s in %s", a.expr, b.expr, around)
			}
		}
	}
}

// P6.1: what is wrong with components and statements, beside each of the other faults.
func TestFaultsOfOthers(t *testing.T) {
	for _, s := range []string{
		"(comp App p (show %))\n(comp App p (show none))", "(comp App p (show none))\n(comp B p (show 1))\n(comp B p (show %))", "(comp B p (show %))", "(comp B p (show none))\n(comp C p (show %))",
		"(comp App p (let p 1) (show %))", "(comp App p (let a %) (let a 1) (show none))", "(comp App p (state a 1) (use a c) (memo b (%) 1) (show none))", "(comp App p (effect () ((set p 1)) ()) (show %))", "(comp App p (let a %) (layout () () ((set b 1))) (show none))",
	} {
		comesOf(t, api.ErrName, faulty(t, put("1", s)), "%s", s)
		for _, f := range faults() {
			comesOf(t, f.want, faulty(t, put(f.expr, s)), "%.50s in %s", f.expr, s)
		}
	}
}

// P6.1: each fault in each place where an expression stands.
func TestFaultsEverywhere(t *testing.T) {
	for _, f := range faults() {
		if strings.HasPrefix(f.expr, "(list 1") {
			continue // twice it would be too long a text
		}
		for _, s := range everywhere(f.expr) {
			comesOf(t, f.want, faulty(t, s), "%.50s in %.200s", f.expr, s)
		}
	}
}

// P6.1: of whatever print.Text says that it is no text's, that error; also far beyond the limits.
func TestAsPrint(t *testing.T) {
	for _, s := range append(whole(), everywhere("p")...) {
		p := of(t, s)
		n := 0
		eachExpr(p, func(e *api.Expr) { n++ })
		for i := range n {
			for _, wrong := range []api.Expr{{Kind: api.ExBool, N: -1}, {S: "a"}, {Kind: api.ExName, S: "none"}, {Kind: api.ExOp, S: "if"}, {Kind: api.ExIf}, {Kind: api.ExEach, S: "a"}, {Kind: api.ExDeed, Site: "x"}, {Kind: api.ExElem}, {Kind: 200}} {
				at, was := (*api.Expr)(nil), api.Expr{}
				j := 0
				eachExpr(p, func(e *api.Expr) {
					if j == i {
						at, was = e, *e
					}
					j++
				})
				*at = wrong
				if _, errno := print.Text(p); errno != api.ErrArg {
					t.Fatalf("%q: print.Text answers %d", s, errno)
				}
				comesOf(t, api.ErrArg, p, "expression %d of %q", i, s)
				*at = was
			}
		}
		comesOf(t, api.OK, p, "%q, as it was", s)
	}
}
