package print_test

import (
	"strings"
	"testing"

	"tapestry/api"
	"tapestry/print"
)

// filledTo is a text of just n bytes: components, and a last one with a name as long as need be.
func filledTo(n int) string {
	const rest = "(comp  p (show none))\n"
	one := "(comp " + long(3000) + " p (show (do)))\n"
	s := strings.Repeat(one, (n-len(rest)-1)/len(one))
	return s + "(comp " + long(n-len(s)-len(rest)) + " p (show none))\n"
}

// P5.1: a program whose text has just as many bytes as may be, and one more.
func TestMaxSource(t *testing.T) {
	for _, n := range []int{api.MaxSource - 1, api.MaxSource} {
		s := filledTo(n)
		if len(s) != n {
			t.Fatalf("%d bytes, want %d", len(s), n)
		}
		itself(t, s)
	}
	p := of(t, filledTo(api.MaxSource))
	last := &p[len(p)-1]
	last.Name += "y"
	fails(t, p, api.ErrLimit, "a byte more in the last name")
	last.Name = last.Name[2:]
	tells(t, p, plainly(p))
	last.Out = api.Expr{Kind: api.ExName, S: "short"}
	tells(t, p, plainly(p))
	last.Out.S = "longer"
	fails(t, p, api.ErrLimit, "a byte more in the last word")
	p = of(t, filledTo(api.MaxSource))
	fails(t, append(p, api.Component{Name: "A", Param: "p"}), api.ErrLimit, "a component more")
	// By bytes that stand otherwise in quotes, and by blanks alone.
	quotes := strings.Repeat(`"`, api.MaxText)
	args := "(f" + strings.Repeat(" "+quoted(quotes), 7) + " "
	room := api.MaxSource - len(shown(args+`"")`))
	twice := room/2 - 5
	fits := shown(args + quoted(strings.Repeat(`\`, twice)+long(room-2*twice)) + ")")
	if len(fits) != api.MaxSource {
		t.Fatalf("%d bytes", len(fits))
	}
	itself(t, fits)
	q := of(t, fits)
	q[0].Out.Args[7].S = `"` + q[0].Out.Args[7].S[1:] // one that stands otherwise for another one
	tells(t, q, plainly(q))
	q[0].Out.Args[7].S = q[0].Out.Args[7].S[:len(q[0].Out.Args[7].S)-1] + "\n"
	fails(t, q, api.ErrLimit, "a byte that stands otherwise for one that does not")
	q = of(t, shown("(f"+strings.Repeat(" x", (api.MaxSource-len(shown("(f)")))/2)+")"))
	if s, errno := print.Text(q); errno != api.OK || len(s) < api.MaxSource-1 {
		t.Errorf("%d bytes, error %d", len(s), errno)
	}
	q[0].Out.Args = append(q[0].Out.Args, api.Expr{Kind: api.ExName, S: "x"})
	fails(t, q, api.ErrLimit, "a blank and a name more")
}

// P5.1: one that is a text's, however long that is; one that is none and would be too long.
func TestTooLong(t *testing.T) {
	many := func(n int) []api.Expr {
		l := make([]api.Expr, n)
		for i := range l {
			l[i] = api.Expr{Kind: api.ExName, S: "x"}
		}
		return l
	}
	for _, n := range []int{40000, 1 << 20} {
		p := api.Program{{Name: "App", Param: "p", Out: api.Expr{Kind: api.ExOp, S: "f", Args: many(n)}}, {Name: "B", Param: "p", Out: api.Expr{Kind: api.ExDeed, Site: "B#0"}}}
		fails(t, p, api.ErrLimit, "%d names", n)
		for _, at := range []int{0, 1, n / 2, n - 1} {
			p[0].Out.Args[at].N = 1
			fails(t, p, api.ErrArg, "%d names, one of them wrong", n)
			p[0].Out.Args[at].N = 0
		}
		p[0].Param = "no"
		fails(t, p, api.ErrArg, "a wrong param ahead")
		p[0].Param, p[1].Param = "p", "no"
		fails(t, p, api.ErrArg, "a wrong param behind")
		p[1].Param, p[1].Out.Site = "p", "B#1"
		fails(t, p, api.ErrArg, "a wrong site behind")
		p[1].Out.Site = "B#0"
		fails(t, p, api.ErrLimit, "%d names, once more", n)
	}
	p := of(t, filledTo(api.MaxSource))
	p[0].Name = long(api.MaxText + 1)
	fails(t, p, api.ErrArg, "a name that is too long, in a text that would be")
	// Deeds count on where no more text is kept.
	p = api.Program{{Name: "App", Param: "p", Out: api.Expr{Kind: api.ExOp, S: "f", Args: append(many(40000), api.Expr{Kind: api.ExDeed, Site: "App#0"}, api.Expr{Kind: api.ExDeed, Site: "App#1"})}}}
	fails(t, p, api.ErrLimit, "deeds behind what is too long")
	p[0].Out.Args[40001].Site = "App#0"
	fails(t, p, api.ErrArg, "deeds behind what is too long, one of them wrong")
}

// P5.1, R1: what lies many parentheses deep.
func TestDeep(t *testing.T) {
	for _, around := range append(aroundExpr(), "(do (log (f %)))", "(rec (a (rec (b (read %)))))") {
		if strings.Count(around, "%") > 1 || strings.Contains(around, "(do (") && strings.Count(around, "(do") > 1 {
			continue
		}
		ahead, behind, _ := strings.Cut(around, "%")
		for _, n := range []int{api.MaxDeep, api.MaxDeep + 1, 1000, (api.MaxSource - len(shown("HERE"))) / len(ahead+behind)} {
			s := shown(strings.Repeat(ahead, n) + "x" + strings.Repeat(behind, n))
			itself(t, s)
			p := holed(t, shown(strings.Repeat(ahead, n)+"HERE"+strings.Repeat(behind, n)), api.Expr{Kind: api.ExBool, N: 2})
			fails(t, p, api.ErrArg, "%s, %d deep", around, n)
		}
	}
	whens := func(n int) string {
		return "(comp App p " + strings.Repeat("(when x ", n) + strings.Repeat("(let a 1) ", 2) + "(when x)" + strings.Repeat(")", n) + " (show none))\n"
	}
	for _, n := range []int{1, 64, 65, 7000} {
		itself(t, whens(n))
	}
}

// P5.1, R1: as deep as is promised: too deep for any text that may be.
func TestDeepest(t *testing.T) {
	const deepest = 1<<16 - 8
	deep := func(e api.Expr, around func(e api.Expr) api.Expr) api.Program {
		for range deepest {
			e = around(e)
		}
		return api.Program{{Name: "App", Param: "p", Out: e}}
	}
	wrong := api.Expr{Kind: api.ExBool, N: 2}
	for i, around := range []func(e api.Expr) api.Expr{
		func(e api.Expr) api.Expr { return api.Expr{Kind: api.ExRead, Args: []api.Expr{e}} },
		func(e api.Expr) api.Expr { return api.Expr{Kind: api.ExIf, Args: []api.Expr{one, one, e}} },
		func(e api.Expr) api.Expr {
			return api.Expr{Kind: api.ExRec, Names: []string{"a"}, Vals: []api.Expr{e}}
		},
		func(e api.Expr) api.Expr {
			return api.Expr{Kind: api.ExElem, Elem: api.ElFrag, Key: []api.Expr{e}}
		},
		func(e api.Expr) api.Expr {
			return api.Expr{Kind: api.ExElem, Elem: api.ElGuard, Names: []string{"again", "else"}, Vals: []api.Expr{e, one}}
		},
	} {
		fails(t, deep(zero, around), api.ErrLimit, "expressions %d", i)
		fails(t, deep(wrong, around), api.ErrArg, "expressions %d, one of them wrong", i)
	}
	for i, e := range []api.Expr{zero, wrong} {
		l := []api.Stmt{{Kind: api.StLet, Name: "a", Expr: e}}
		for range deepest {
			l = []api.Stmt{{Kind: api.StWhen, Body: l}}
		}
		fails(t, api.Program{{Name: "App", Param: "p", Body: l}}, []api.Errno{api.ErrLimit, api.ErrArg}[i], "statements")
		// Where no expression may be: the same one deep within.
		fails(t, api.Program{{Name: "App", Param: "p", Body: []api.Stmt{{Kind: api.StUse, Name: "a", Ctx: "b", Body: l}}}}, api.ErrArg, "statements that may not be")
	}
}
