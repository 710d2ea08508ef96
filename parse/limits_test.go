package parse_test

import (
	"strings"
	"testing"

	"tapestry/api"
)

// P4.1: a source at its greatest length, and one byte more.
func TestMaxSource(t *testing.T) {
	const most = api.MaxSource
	for _, fill := range []string{" ", "\n", ";"} {
		idle := strings.Repeat(fill, most-len(empty))
		parses(t, empty+idle, comp(none()))
		fails(t, empty+idle+" ", 0, api.ErrLimit)
		fails(t, empty+idle+"\n", 0, api.ErrLimit)
		if fill == "\n" {
			parses(t, idle+empty, comp(none()))
		}
	}
	fails(t, strings.Repeat("\n", most-1)+"(", most-1, api.ErrSyntax)
	fails(t, strings.Repeat("\n", most)+"(", 0, api.ErrLimit)
	fails(t, strings.Repeat(",", most), 0, api.ErrWord)
	fails(t, strings.Repeat(",", most+1), 0, api.ErrLimit)
	fails(t, strings.Repeat("\n", most)+",", 0, api.ErrLimit)
	fails(t, strings.Repeat(")", 1<<20), 0, api.ErrLimit)
}

// P4.1: as many things behind one another as a source can hold; MaxNodes bounds no text.
func TestMany(t *testing.T) {
	const ahead = 64
	n := (api.MaxSource - ahead) / 2
	var args []api.Expr
	for range n {
		args = append(args, name("x"))
	}
	comes(t, "(f"+strings.Repeat(" x", n)+")", op("f", args...))
	var all []api.Component
	for range api.MaxSource / len(empty) {
		all = append(all, comp(none()))
	}
	parses(t, strings.Repeat(empty, len(all)), all...)
	var body []api.Stmt
	for range 5000 {
		body = append(body, let("x", number(1)))
	}
	parses(t, "(comp App p"+strings.Repeat("(let x 1)", 5000)+"(show none))", comp(none(), body...))
	var todo []api.Act
	for range 5000 {
		todo = append(todo, stop())
	}
	comes(t, "(do"+strings.Repeat("(stop)", 5000)+")", deed("App#0", todo...))
}

// P4.1, R1: what lies many parentheses deep; MaxDeep bounds no text.
func TestDeep(t *testing.T) {
	for _, c := range []struct{ ahead, behind string }{
		{"(f ", ")"}, {"(f 1 ", " 2)"}, {"(if 1 ", " 2)"}, {"(do (log ", "))"}, {"(rec (a ", "))"}, {"(frag ", ")"}, {"(frag - ", ")"}, {"(host - a ((b ", ")))"},
		{"(guard - 1 ", ")"}, {"(wait - ", ")"}, {"(read ", ")"}, {"(each x 1 ", ")"},
	} {
		for _, n := range []int{api.MaxDeep, api.MaxDeep + 1, 1000, (api.MaxSource - 64) / len(c.ahead+c.behind)} {
			s := strings.Repeat(c.ahead, n) + "\n" + "x" + strings.Repeat(c.behind, n)
			p := got(t, shown(s))
			if deep := depth(p[0].Out); deep != n {
				t.Errorf("%s: %d deep, want %d", c.ahead, deep, n)
			}
			fails(t, "(comp App p (show "+strings.Repeat(c.ahead, n), 0, api.ErrSyntax)
			fails(t, "(comp App p (show "+strings.Repeat(c.ahead, n)+"\n-", 1, api.ErrSyntax)
			fails(t, "(comp App p (show "+s+"\n) x)", 2, api.ErrSyntax)
		}
	}
	fails(t, strings.Repeat("(", api.MaxSource), 0, api.ErrSyntax)
	fails(t, "(comp App p "+strings.Repeat("(when x ", 8000)+"\n(show", 1, api.ErrSyntax)
	parses(t, "(comp App p (when x "+strings.Repeat("(let a 5) ", 2)+")(show none))",
		comp(none(), api.Stmt{Kind: api.StWhen, Expr: name("x"), Body: []api.Stmt{let("a", number(5)), let("a", number(5))}}))
	whens := got(t, "(comp App p "+strings.Repeat("(when x ", 7000)+strings.Repeat(")", 7000)+"(show none))")
	n := 0
	for l := whens[0].Body; len(l) == 1; l = l[0].Body {
		n++
	}
	if n != 7000 {
		t.Errorf("%d deep", n)
	}
}

// depth: how many expressions lie around the name x?
func depth(e api.Expr) int {
	n := 0
	for e.Kind != api.ExName || e.S != "x" {
		n++
		var next api.Expr
		for _, l := range [][]api.Expr{e.Key, e.Vals, e.Args} {
			for _, one := range l {
				if one.Kind != api.ExInt {
					next = one
				}
			}
		}
		for _, a := range e.Acts {
			next = a.Expr
		}
		e = next
		if e.Kind == api.ExNone {
			return -1
		}
	}
	return n
}
