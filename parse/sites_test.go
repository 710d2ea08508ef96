package parse_test

import (
	"strconv"
	"strings"
	"testing"

	"tapestry/api"
	"tapestry/parse"
)

// got is the program of a text that has one.
func got(t *testing.T, s string) api.Program {
	t.Helper()
	p, line, errno := parse.Parse(s)
	if errno != api.OK || line != 0 {
		t.Fatalf("%.200q: line %d, error %d", s, line, errno)
	}
	return p
}

func sameExprs(a, b []api.Expr) bool {
	return same(api.Program{comp(op("f", a...))}, api.Program{comp(op("f", b...))})
}

// sites are those of all deeds of a component, in whatever order; from those that a test has put into its deeds by `log`.
func sites(c api.Component) map[string]string {
	all := map[string]string{}
	var ofExprs func(l []api.Expr)
	ofActs := func(l []api.Act) {
		for _, a := range l {
			ofExprs([]api.Expr{a.Expr})
		}
	}
	ofExprs = func(l []api.Expr) {
		for _, e := range l {
			if e.Kind == api.ExDeed {
				all[e.Acts[0].Expr.S] = e.Site
			}
			ofExprs(e.Key)
			ofExprs(e.Args)
			ofExprs(e.Vals)
			ofActs(e.Acts)
		}
	}
	var ofStmts func(l []api.Stmt)
	ofStmts = func(l []api.Stmt) {
		for _, s := range l {
			ofExprs([]api.Expr{s.Expr})
			ofExprs(s.Deps)
			ofActs(s.Do)
			ofActs(s.Undo)
			ofStmts(s.Body)
		}
	}
	ofStmts(c.Body)
	ofExprs([]api.Expr{c.Out})
	return all
}

// named gives each deed of a text, which stands in it as DEED, a name by its place: the first one is "0".
func named(s string) (string, int) {
	n := strings.Count(s, "DEED")
	for i := range n {
		s = strings.Replace(s, "DEED", `(do (log "`+strconv.Itoa(i)+`"))`, 1)
	}
	return s, n
}

const everywhere = `(comp %s p
  (let a DEED) (state b (f DEED DEED)) (memo c (DEED 1 DEED) DEED) (use d e)
  (layout (DEED DEED) ((set x DEED) (log DEED) (fail DEED)) ((log DEED)))
  (effect (DEED DEED) ((set x DEED) (log DEED) (fail DEED)) ((log DEED)))
  (when DEED (let y DEED) (when DEED (let do (f do DEED))) (let z DEED))
  (show (host DEED div ((do DEED) (on:x DEED)) DEED
    (new DEED A ((a DEED)) DEED) (pure DEED A ((a DEED)) DEED) (frag DEED DEED) (portal DEED do DEED)
    (give DEED do DEED DEED DEED) (guard DEED DEED DEED DEED DEED) (wait DEED DEED DEED) (guard - DEED DEED)
    (if DEED DEED DEED) (each do DEED DEED) (read DEED) (throw DEED) (rec (a DEED) (do DEED)) "do" "(do)" (do- DEED) do)))`

// P4.1, P4.3: sites count the deeds of a component in the order of its text, in each kind of stmt and of expr; no two are alike.
func TestSites(t *testing.T) {
	var all string
	deeds := 0
	for _, c := range []string{"A", "do", "A", "-a#1"} {
		s, n := named(strings.Replace(everywhere, "%s", c, 1))
		all += s
		deeds = n
	}
	if deeds < 60 {
		t.Fatal(deeds)
	}
	p := got(t, all)
	for i, c := range []string{"A", "do", "A", "-a#1"} {
		l := sites(p[i])
		if len(l) != deeds || p[i].Name != c {
			t.Errorf("%d sites of %s", len(l), p[i].Name)
		}
		for place, site := range l {
			if site != c+"#"+place {
				t.Errorf("%s: the deed %s has the site %s", c, place, site)
			}
		}
	}
}

// P4.1: a deed within a deed stands behind it; one that follows stands behind both.
func TestSitesWithin(t *testing.T) {
	comes(t, "(f (do (set a (do (log (do)) (fail (do)))) (log (do))) (do))", op("f",
		deed("App#0", set("a", deed("App#1", log(deed("App#2")), fail(deed("App#3")))), log(deed("App#4"))), deed("App#5")))
	s, want := "none", none()
	for i := range 300 {
		s, want = "(do (log "+s+"))", deed("App#"+strconv.Itoa(299-i), log(want))
	}
	comes(t, s, want)
	var l []api.Expr
	for i := range 1000 {
		l = append(l, deed("App#"+strconv.Itoa(i)))
	}
	comes(t, "(f"+strings.Repeat(" (do)", 1000)+")", op("f", l...))
}

// P4.1: what is no `do` of a deed does not count, and a name as long as can be is told whole.
func TestSitesOfLongNames(t *testing.T) {
	n := long(api.MaxText)
	parses(t, "(comp "+n+" do (let do do) (use do do) (show (f do (rec (do 1)) \"(do)\" (do (set do do)))))", api.Component{Name: n, Param: "do",
		Body: []api.Stmt{let("do", name("do")), {Kind: api.StUse, Name: "do", Ctx: "do"}},
		Out:  op("f", name("do"), record(names("do"), number(1)), text("(do)"), deed(n+"#0", set("do", name("do"))))})
	parses(t, "(comp A p (show (do))) ; (do)\n(comp B p (show (f ; (do)\n (do))))",
		api.Component{Name: "A", Param: "p", Out: deed("A#0")}, api.Component{Name: "B", Param: "p", Out: op("f", deed("B#0"))})
}
