package check_test

import (
	"strconv"
	"strings"
	"testing"

	"tapestry/api"
	"tapestry/print"
)

// wide: a program with as many things as one likes in some place: % are the things, each with so many parts, # in each a number of its own;
// so many parts are there without them, the none that App shows too.
type wide struct {
	text, thing string
	parts, size int
}

func wides() []wide {
	l := []wide{
		{plain("", "none") + "%", "(comp C# p (show none))\n", 2, 2},
		{plain("", "none") + "%", "(comp C# p (show (not no)))\n", 2, 3},
		{plain("", "none") + "%", "(comp C# p (let a 1) (show (read a)))\n", 2, 5},
		{plain("%", "none"), "(use u# c)", 2, 1},
		{plain("%", "none"), "(let u# 1)", 2, 2},
		{plain("%", "none"), "(state u# 1)", 2, 2},
		{plain("%", "none"), "(memo u# () 1)", 2, 2},
		{plain("%", "none"), "(memo u# (1 2) 1)", 2, 4},
		{plain("(let z (list"+strings.Repeat(" p", 2000)+")) %", "none"), "(layout () () ())", 2004, 1},
		{plain("(let z (list"+strings.Repeat(" p", 2000)+")) %", "none"), "(effect () () ())", 2004, 1},
		{plain("(when (list"+strings.Repeat(" p", 2000)+") %)", "none"), "(effect () () ())", 2004, 1},
		{plain("%", "none"), "(effect (p) ((stop)) ((log p)))", 2, 5},
		{plain("(when p %)", "none"), "(use u# c)", 4, 1},
		{plain("(when p (when p %))", "none"), "(let u# 1)", 6, 2},
		{plain("%", "none"), "(when p)", 2, 2},
		{plain("(memo m (%) 1)", "none"), "p", 4, 1},
		{plain("(layout (%) () ())", "none"), "p", 3, 1},
		{plain("(effect (%) () ())", "none"), "5", 3, 1},
		{plain("(effect () () ()) (when p (effect (%) () ()))", "none"), "(not no)", 6, 2},
		{plain("(let a (list %))", "none"), "(do)", 4, 1},
	}
	for i, act := range []string{"(stop)", "(log p)", "(fail it)", "(log (not it))"} {
		size := []int{1, 2, 2, 3}[i]
		for _, s := range []string{"(layout () (%) ())", "(layout () () (%))", "(effect () (%) ())", "(effect () () (%))"} {
			l = append(l, wide{plain(s, "none"), act, 3, size})
		}
		l = append(l, wide{plain("(let a (do %))", "none"), act, 4, size}, wide{plain("(let a (do (log (do %))))", "none"), act, 6, size})
	}
	l = append(l, wide{plain("(state s 1) (let a (do (stop) %))", "none"), "(set s it)", 7, 2}, wide{plain("(state s 1) (effect () (%) ())", "none"), "(set s it)", 5, 2})
	for _, s := range []string{"(let a %)", "(state a %)", "(memo a () %)", "(when %)"} {
		l = append(l, wide{plain(strings.ReplaceAll(s, "%", "(list %)"), "none"), "1", 4, 1})
	}
	for text, parts := range map[string]int{
		"(cat %)": 1, "(and 1 %)": 2, "(rec (a (list %)))": 2, "(if 1 2 (list %))": 4, "(each e p (list e %))": 4, "(read (list %))": 2, "(throw (list %))": 2,
		"(frag - %)": 1, "(frag 1 %)": 2, "(frag (list %) 1)": 3, "(portal - x %)": 1, "(give - x 1 %)": 2, "(give - x (list %))": 2, "(guard - 1 2 %)": 3,
		"(guard - (list %) 2)": 3, "(guard - 1 (list %))": 3, "(wait - 1 %)": 2, "(wait - (list %))": 2,
		"(host - x () %)": 1, "(new - App () %)": 1, "(pure - App () %)": 1, "(host p x ((a 1)) %)": 3, "(host - x ((a (list %))))": 2, "(new (list %) App ())": 2,
	} {
		for i, one := range []string{"1", "p", "(frag 1)", "(give - c 1)", "(host - a ())", "(not (not no))", "(do (stop))", `(read "a")`} {
			l = append(l, wide{plain("(let z "+text+")", "none"), one, 3 + parts, []int{1, 1, 2, 2, 1, 3, 2, 2}[i]})
		}
	}
	for _, s := range []string{"(rec %)", "(host - x (%))", "(new - App (%))", "(pure - App (%))"} {
		l = append(l, wide{plain("(let z "+s+")", "none"), "(a# 1)", 4, 1}, wide{plain("(let z "+s+")", "none"), "(a# (not no))", 4, 2})
	}
	return l
}

// of is a program of n parts: where the things do not come to n just so, App shows a list of some more.
func (w wide) of(t *testing.T, n int) api.Program {
	t.Helper()
	var b strings.Builder
	many := (n - w.parts) / w.size
	for i := range many {
		b.WriteString(" " + strings.ReplaceAll(w.thing, "#", strconv.FormatInt(int64(i), 36)))
	}
	s := put(b.String(), w.text)
	if rest := n - w.parts - many*w.size; rest > 0 {
		s = strings.Replace(s, "(show none)", "(show (list"+strings.Repeat(" 1", rest)+"))", 1)
	}
	return of(t, s)
}

// P6.1: just MaxNodes parts, and one more, in each place that holds some.
func TestMaxNodes(t *testing.T) {
	t.Parallel()
	for _, w := range wides() {
		comesOf(t, api.OK, w.of(t, api.MaxNodes), "MaxNodes parts, of %s in %s", w.thing, w.text)
		p := w.of(t, api.MaxNodes+1)
		if _, errno := print.Text(p); errno != api.OK {
			t.Fatalf("of %s in %s there are too many bytes", w.thing, w.text)
		}
		comesOf(t, api.ErrLimit, p, "a part more, of %s in %s", w.thing, w.text)
	}
}

// deepOf is s within as many `read`.
func deepOf(s string, n int) string {
	return strings.Repeat("(read ", n) + s + strings.Repeat(")", n)
}

// P6.1: parts just MaxDeep deep and one deeper, by each place of an expression where another one stands right in it.
func TestMaxDeepOfExprs(t *testing.T) {
	t.Parallel()
	for _, a := range aroundExpr() {
		ahead, behind := shown("%"), "(comp A p (let a %) (show none))\n"+shown("none")
		for i, frame := range []string{ahead, behind} {
			room := api.MaxDeep - (2 + i) - levels(a)
			for _, n := range []int{0, 1, room / 2, room - 1, room} {
				frame := frame
				if strings.Contains(a, "(set s") {
					frame = strings.Replace(frame, "(comp A p", "(comp A p (state s 0)", 1)
				}
				comes(t, api.OK, put(deepOf(put(deepOf("1", room-n), a), n), frame))
				comes(t, api.ErrLimit, put(deepOf(put(deepOf("1", room-n+1), a), n), frame))
				comes(t, api.ErrLimit, put(deepOf(put(deepOf("1", room-n), a), n+1), frame))
			}
		}
		// All the way by this place alone.
		var s string
		deep, want := 2, api.OK
		for s = "1"; want == api.OK; s = put(s, a) {
			if deep > api.MaxDeep {
				want = api.ErrLimit
			}
			if p := of(t, strings.ReplaceAll(shown("%"), "%", s)); strings.Count(a, "%") == 1 {
				comesOf(t, want, p, "%s, %d deep", a, deep)
			}
			deep += levels(a)
		}
	}
}

// P6.1: the same by each place of a statement where an expression stands.
func TestMaxDeepOfStmts(t *testing.T) {
	for _, a := range aroundInStmt() {
		for _, last := range []string{"p", "(list)", "(rec)", "(do)", "(host - a ())", `"x"`, "none"} {
			comes(t, api.OK, stated(put(deepOf(last, api.MaxDeep-a.deep), a.text)))
			comes(t, api.ErrLimit, stated(put(deepOf(last, api.MaxDeep-a.deep+1), a.text)))
		}
		// Within as many whens as may be.
		whens := func(n int) string {
			return stated(strings.Repeat("(when p ", n) + put("1", a.text) + strings.Repeat(")", n))
		}
		comes(t, api.OK, whens(api.MaxDeep-a.deep))
		comes(t, api.ErrLimit, whens(api.MaxDeep-a.deep+1))
	}
}

// P6.1: an act, a statement, and what a component shows as the deepest part.
func TestMaxDeepOfOthers(t *testing.T) {
	deepest := func(s string, deep int) {
		t.Helper()
		comes(t, api.OK, stated(strings.Repeat("(when p ", api.MaxDeep-deep)+s+strings.Repeat(")", api.MaxDeep-deep)))
		comes(t, api.ErrLimit, stated(strings.Repeat("(when p ", api.MaxDeep-deep+1)+s+strings.Repeat(")", api.MaxDeep-deep+1)))
	}
	deepest("", 2) // the when's own expression: it lies as deep as what stands in the body would
	for _, s := range []string{"(use a b)", "(layout () () ())", "(effect () () ())"} {
		deepest(s, 2)
	}
	for _, s := range []string{"(layout () ((stop)) ())", "(layout () () ((stop)))", "(effect () ((stop)) ())", "(effect () () ((stop) (stop)))"} {
		deepest(s, 3)
	}
	for _, n := range []int{api.MaxDeep - 3, api.MaxDeep - 2} {
		want := []api.Errno{api.OK, api.ErrLimit}[n-(api.MaxDeep-3)]
		comes(t, want, shown(deepOf("(do (stop))", n)))
	}
	for i, want := range []api.Errno{api.OK, api.ErrLimit} {
		comes(t, want, plain("", deepOf("p", api.MaxDeep-2+i)))
		comes(t, want, plain("", "none")+"(comp B p (show "+deepOf("p", api.MaxDeep-2+i)+"))")
		comes(t, want, "(comp B p (show "+deepOf("p", api.MaxDeep-2+i)+"))"+plain("", "none"))
		comes(t, want, plain("", "(list 1 "+deepOf("p", api.MaxDeep-3+i)+" 1)"))
	}
}

// P6.1, R1: as deep as a text that may be is, and as is promised.
func TestDeepest(t *testing.T) {
	t.Parallel()
	for _, a := range aroundExpr() {
		if strings.Count(a, "%") > 1 {
			continue
		}
		ahead, behind, _ := strings.Cut(a, "%")
		for _, n := range []int{100, 1000, (api.MaxSource - len(shown("1"))) / len(a)} {
			comes(t, api.ErrLimit, shown(strings.Repeat(ahead, n)+"1"+strings.Repeat(behind, n)))
		}
	}
	comes(t, api.ErrLimit, stated(strings.Repeat("(when p ", 7000)+strings.Repeat(")", 7000)))
	const deepest = 1<<16 - 8
	e := api.Expr{Kind: api.ExInt}
	for range deepest {
		e = api.Expr{Kind: api.ExOp, S: "not", Args: []api.Expr{e}}
	}
	comesOf(t, api.ErrLimit, api.Program{{Name: "App", Param: "p", Out: e}}, "expressions, %d deep", deepest)
	l := []api.Stmt{{Kind: api.StUse, Name: "a", Ctx: "c"}}
	for range deepest {
		l = []api.Stmt{{Kind: api.StWhen, Body: l}}
	}
	comesOf(t, api.ErrLimit, api.Program{{Name: "App", Param: "p", Body: l}}, "statements, %d deep", deepest)
}

// P6.1, R1: programs that ask a great deal about names end soon.
func TestManyNames(t *testing.T) {
	var lets, uses, comps, news strings.Builder
	for i := range 1360 {
		n := strconv.Itoa(i)
		lets.WriteString("(let n" + n + " p) ")
		uses.WriteString(" n" + n)
	}
	comes(t, api.OK, plain(lets.String(), "(list"+uses.String()+")"))
	comes(t, api.ErrName, plain(lets.String(), "(list"+uses.String()+" x)"))
	comes(t, api.ErrName, plain(lets.String()+"(let n0 1)", "none"))
	comes(t, api.ErrName, plain(lets.String()+"(let p 1)", "none"))
	for i := range 1200 {
		n := strconv.Itoa(i)
		comps.WriteString("(comp C" + n + " p (show p))\n")
		news.WriteString(" (new - C" + n + " ())")
	}
	comes(t, api.OK, plain("", "(list"+news.String()+")")+comps.String())
	comes(t, api.ErrName, plain("", "(list"+news.String()+" (new - C1200 ()))")+comps.String())
	comes(t, api.ErrName, plain("", "none")+comps.String()+"(comp C0 p (show none))")
	comes(t, api.ErrName, comps.String())
	states := strings.ReplaceAll(lets.String(), "(let", "(state")
	comes(t, api.OK, plain("(let d (do (set n1359 1) (set n0 1))) "+states, "none"))
	comes(t, api.ErrName, plain("(let d (do (set n1359 1) (set n1360 1))) "+states, "none"))
}

// P6.1: the error of print.Text, whatever else there is.
func TestTextsErrors(t *testing.T) {
	for _, s := range whole() {
		p := of(t, s)
		p[0].Param = "no"
		comesOf(t, api.ErrArg, p, "the param no: %q", s)
		long := strings.Repeat("x", api.MaxText)
		p = append(of(t, s), of(t, "(comp "+long+" p (show none))")...)
		comesOf(t, api.OK, p, "a component of a long name more: %q", s)
		p[len(p)-1].Name += "x"
		comesOf(t, api.ErrArg, p, "a component whose name is too long: %q", s)
	}
}

// P6.1: a program whose text is just as long as may be, and a byte longer: by a text, whose bytes make no parts.
func TestMaxSource(t *testing.T) {
	p := of(t, plain("", "(list"+strings.Repeat(` "`+strings.Repeat(`\"`, api.MaxText)+`"`, 7)+` "" "")`))
	told, _ := print.Text(p)
	rest := api.MaxSource - len(told)
	p[0].Out.Args[7].S = strings.Repeat("x", rest/2)
	p[0].Out.Args[8].S = strings.Repeat("x", rest-rest/2)
	comesOf(t, api.OK, p, "a text as long as may be")
	p[0].Out.Args[8].S += "x"
	comesOf(t, api.ErrLimit, p, "a text that is a byte too long")
	p[0].Out.Args[0].S = strings.Repeat("x", api.MaxText+1)
	comesOf(t, api.ErrArg, p, "a text with one that may not be")
}
