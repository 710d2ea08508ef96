package check_test

import (
	"strings"
	"testing"

	"tapestry/api"
)

// makers: each kind of statement that makes a name, %.
func makers() []string {
	return []string{"(let % 1)", "(state % 1)", "(memo % () 1)", "(use % c)"}
}

// idlers: statements beside which others stand.
func idlers() []string {
	return []string{"", "(layout () () ())", "(effect (p) ((log p)) ((stop)))", "(when p)", "(let z 1)", "(when p (state z 1) (use y c))", "(let z 1) (memo y (z) z) (effect () () ()) (when z (when y)) (use v w)"}
}

// orders of two statements, @1 and @2, and of an idle one @, ahead of one another, each in its own body of a when or in one's.
func orders() []string {
	return []string{
		"@1 @ @2", "@1 @2 @", "@ @1 @2", "@1 (when p @ @2)", "@1 (when p (when p @ @2))", "(when p @1) @ @2", "(when p @1 @) @2", "(when p (when p @1) @) @2",
		"(when p @1 @ @2)", "(when p @1 @2) @", "(when p (when p @1) @ @2)", "(when p @1 (when p @ @2))", "(when p @1) @ (when p @2)", "(when p @1) (when p @ (when p @2))", "(when p (when p @1)) (when p @2 @)",
		"@ (when p (when p (when p @1 @2)))",
	}
}

func ordered(order, first, second, idle string) string {
	return strings.NewReplacer("@1", first, "@2", second, "@", idle).Replace(order)
}

// P6.1: a let, a state, a memo, a use whose name is known already: as each of these four, next to it and far from it, within a when's body, behind the when and in it.
func TestKnownAlready(t *testing.T) {
	for _, a := range makers() {
		for _, b := range makers() {
			for _, order := range orders() {
				for _, idle := range idlers() {
					first, second := put("x", a), put("x", b)
					comes(t, api.ErrName, plain(ordered(order, first, second, idle), "none"))
					comes(t, api.OK, plain(ordered(order, first, put("xx", b), idle), "none"))
					comes(t, api.OK, plain(ordered(order, put("x1", a), put("x2", b), idle), "none"))
					// In two components each may make it.
					comes(t, api.OK, plain(ordered(order, first, "", idle), "none")+"(comp B p "+ordered(order, "", second, idle)+" (show none))")
				}
			}
		}
	}
}

// P6.1: the param's name, made once more.
func TestParamAlready(t *testing.T) {
	for _, a := range makers() {
		for _, idle := range idlers() {
			for _, body := range []string{"@1", "@ @1", "@1 @", "(when p @1)", "(when p @ @1)", "@ (when p (when p @1))"} {
				comes(t, api.ErrName, plain(ordered(body, put("p", a), "", idle), "none"))
				comes(t, api.OK, plain(ordered(body, put("q", a), "", idle), "none"))
				// Another component's param does not count.
				comes(t, api.OK, "(comp B q (show none))"+plain(ordered(body, put("q", a), "", idle), "none")+"(comp C q (show none))")
			}
		}
		for _, n := range []string{"it", "App", "B", "c", "and", "add", "if", "comp", "s0", "e"} {
			comes(t, api.OK, stated(put(n, a)))
			comes(t, api.ErrName, stated(put(n, a)+put(n, a)))
			comes(t, api.ErrName, "(comp App "+n+" "+put(n, a)+" (show none))")
		}
	}
}

// P6.1: a use knows its own name, not the context's; many may read one context.
func TestUse(t *testing.T) {
	comes(t, api.OK, plain("(use a c) (use b c)", "(list a b)"))
	comes(t, api.OK, plain("(use a a)", "a"))
	comes(t, api.OK, plain("(use a p) (use b a)", "none"))
	comes(t, api.ErrName, plain("(use a c)", "c"))
	comes(t, api.OK, plain("(use a c) (let c 1)", "c"))
	comes(t, api.ErrName, plain("(use a c) (use a d)", "none"))
}

// P6.1: a name in each expression that stands ahead of, in and behind each kind of statement that makes it.
func TestAheadInBehind(t *testing.T) {
	t.Parallel()
	own := []string{"(let x %)", "(state x %)", "(memo x (%) 1)", "(memo x (1 %) 1)", "(memo x () %)"}
	for _, around := range append(aroundExpr(), "%") {
		s := put("x", around)
		comes(t, api.ErrName, shown(s))
		for _, m := range own {
			comes(t, api.ErrName, framed(put(s, m), "none"))
			comes(t, api.ErrName, framed("(when p "+put(s, m)+")", "x"))
			comes(t, api.OK, framed("(let xx 1) "+put(put("xx", around), m), "x"))
		}
		for _, m := range makers() {
			m := put("x", m)
			comes(t, api.OK, framed(m, s))
			comes(t, api.OK, framed("(when p "+m+")", s))
			comes(t, api.OK, framed("(when p (when p "+m+"))", s))
			comes(t, api.ErrName, framed(m, put("xx", around)))
			comes(t, api.ErrName, framed(m, "none")+comp("C", "x"))
			comes(t, api.ErrName, comp("C", "x")+framed(m, "none"))
		}
	}
	for _, at := range aroundInStmt() {
		for _, around := range []string{"%", "(list 1 %)", "(rec (a 1) (b %))", "(do (log %))", "(frag % 1)", "(each e p %)", "(each e % 1)"} {
			s := put(put("x", around), at.text)
			comes(t, api.ErrName, stated(s))
			for _, m := range makers() {
				m := put("x", m)
				for want, bodies := range map[api.Errno][]string{
					api.OK:      {m + s, m + "(when p " + s + ")", "(when p " + m + ")" + s, "(when p " + m + ")(when p " + s + ")", "(when p " + m + s + ")", "(when p (when p " + m + ")" + s + ")"},
					api.ErrName: {s + m, "(when p " + s + ")" + m, s + "(when p " + m + ")", "(when p " + s + ")(when p " + m + ")", "(when p " + s + m + ")", "(when p " + s + "(when p " + m + "))"},
				} {
					for _, body := range bodies {
						comes(t, want, stated(body))
						comes(t, want, stated("(layout () () ())"+body+"(use z c)"))
					}
				}
			}
		}
	}
}

// P6.1: a when's own expression stands ahead of its body.
func TestWhen(t *testing.T) {
	for _, m := range makers() {
		m := put("x", m)
		comes(t, api.ErrName, plain("(when x "+m+")", "none"))
		comes(t, api.ErrName, plain("(when p (when x "+m+"))", "none"))
		comes(t, api.ErrName, plain("(when (list p x) "+m+")", "x"))
		comes(t, api.OK, plain(m+"(when x)", "none"))
		comes(t, api.OK, plain("(when p "+m+"(when x (when x)))(when x)", "x"))
	}
}

// P6.1: expressions of layouts and effects know what stands ahead alone, and nothing comes of them.
func TestLayouts(t *testing.T) {
	for _, word := range []string{"layout", "effect"} {
		for _, s := range []string{"((% x)) () ()", "() ((log (% x))) ()", "() () ((fail (% x)))", "(1 (% x)) ((stop) (log 1)) ((stop))"} {
			s := "(" + word + " " + put("list", s) + ")"
			comes(t, api.ErrName, plain(s, "none"))
			comes(t, api.ErrName, plain(s+"(let x 1)", "none"))
			comes(t, api.OK, plain("(let x 1)"+s, "x"))
			comes(t, api.OK, "(comp App x "+s+" (show x))")
		}
	}
}

// P6.1: an each's name is known in its second expression alone, and hides nothing of what comes behind.
func TestEach(t *testing.T) {
	for s, want := range map[string]api.Errno{
		"(each x p x)": api.OK, "(each x p p)": api.OK, "(each x p 1)": api.OK, "(each x x x)": api.ErrName, "(each x x 1)": api.ErrName, "(each x (list p x) x)": api.ErrName,
		"(list (each x p x) x)": api.ErrName, "(list x (each x p x))": api.ErrName, "(list (each x p x) (each x p x))": api.OK, "(list (each x p x) p)": api.OK,
		"(each p p p)": api.OK, "(list (each p p p) p)": api.OK, "(each s s s)": api.OK, "(list (each s s s) s)": api.OK, "(each it p it)": api.OK, "(list (each it p it) it)": api.ErrName,
		"(each x p (each x x x))": api.OK, "(each x p (each y x (list x y p)))": api.OK, "(each x p (each y y x))": api.ErrName, "(each x (each y p y) y)": api.ErrName, "(each x (each y p y) x)": api.OK,
		"(each x (each x p x) x)": api.OK, "(each x (each x x x) x)": api.ErrName, "(each x p (list (each y x y) y))": api.ErrName, "(each x p (list (each x p x) x))": api.OK,
		"(each x p (do (log x)))": api.OK, "(each x (do (log x)) 1)": api.ErrName, "(each x p (host x div ((a x)) x))": api.OK, "(each x p (frag x))": api.OK, "(each x p (read x))": api.OK,
		"(each x p (if x x x))": api.OK, "(each x p (guard x x x x))": api.OK, "(if (each x p x) x 1)": api.ErrName, "(if 1 (each x p x) x)": api.ErrName, "(rec (a (each x p x)) (b x))": api.ErrName,
		"(host (each x p x) div ((a x)))": api.ErrName, "(host - div ((a (each x p x))) x)": api.ErrName, "(frag (each x p x) x)": api.ErrName, "(do (log (each x p x)) (log x))": api.ErrName,
	} {
		for _, text := range []string{shown(s), stated("(let z " + s + ")"), stated("(when " + s + ")"), stated("(memo z (" + s + ") " + s + ")"), stated("(effect (" + s + ") ((log " + s + ")) ())"), shown("(each w p " + s + ")")} {
			comes(t, want, text)
		}
	}
	// It is no name that a statement would make once more, ahead or behind; nor is it known where one stands.
	for _, m := range makers() {
		comes(t, api.OK, plain("(let y (each x p x))"+put("x", m), "x"))
		comes(t, api.OK, plain(put("x", m), "(list (each x x x) x)"))
		comes(t, api.OK, plain(put("x", m)+"(let y (each x p x)) (when x (let z (list x y)))", "x"))
	}
	for _, m := range []string{"(let x %)", "(state x %)", "(memo x (%) 1)", "(memo x () %)"} {
		comes(t, api.OK, plain(put("(each x p x)", m), "x"))
		comes(t, api.ErrName, plain(put("(each x x x)", m), "x"))
	}
	comes(t, api.ErrName, plain("(let y (each x p x))", "x"))
	comes(t, api.ErrName, plain("(let y (each x p x)) (let z x)", "none"))
	comes(t, api.ErrName, plain("(memo m ((each x p x)) x)", "none"))
	comes(t, api.ErrName, plain("(when (each x p x) (let y x))", "none"))
	comes(t, api.ErrName, plain("(layout ((each x p x)) ((log x)) ())", "none"))
	comes(t, api.ErrName, plain("(layout () ((log (each x p x)) (log x)) ())", "none"))
	comes(t, api.ErrName, plain("", "(each x p x)")+comp("B", "x"))
}

// P6.1: `it` is known in the expressions of acts, and in all within them, and nowhere else.
func TestIt(t *testing.T) {
	for _, around := range append(aroundExpr(), "%") {
		s := put("it", around)
		// Outside of acts, but for those that the place itself brings.
		comes(t, truly(levels(around) == 2), shown(s))
		for _, act := range []string{"(log %)", "(fail %)", "(set s %)"} {
			act := put(s, act)
			for _, at := range []string{"(layout () (%) ())", "(layout () () (%))", "(effect () ((stop) %) ())", "(effect () () (% (stop)))", "(when p (effect () (%) ()))", "(let a (do %))", "(memo a ((do %)) 1)"} {
				comes(t, api.OK, stated(put(act, at)))
			}
			for _, at := range append(aroundExpr(), "%") {
				comes(t, api.OK, shown(put("(do "+act+")", at)))
			}
			comes(t, api.OK, shown("(do (log (do (log 1) "+act+" (log it))) (fail it))"))
			// Beside the acts it is not known.
			comes(t, api.ErrName, shown("(list (do "+act+") it)"))
			comes(t, api.ErrName, shown("(list it (do "+act+"))"))
			comes(t, api.ErrName, framed("(effect () ("+act+") ())", "it"))
			comes(t, api.ErrName, stated("(effect () ("+act+") ()) (let a it)"))
			comes(t, api.ErrName, stated("(let a (do "+act+")) (when it)"))
		}
	}
	for _, at := range aroundInStmt() {
		acts := strings.Contains(at.text, "(log %)") || strings.Contains(at.text, "(fail %)") || strings.Contains(at.text, "(set s %)")
		comes(t, truly(acts), stated(put("it", at.text)))
		comes(t, truly(acts), stated(put("(list p it)", at.text)))
		comes(t, api.OK, stated(put("(do (log it))", at.text)))
	}
	for _, s := range []string{"(layout (it) ((log it)) ())", "(effect (it) () ((log it)))", "(layout ((list it)) ((log 1)) ((log 1)))", "(memo m (it) (do (log it)))"} {
		comes(t, api.ErrName, stated(s))
	}
}

// P6.1: `it` as a param, as what a statement makes, as an each's name: known as any other name, and within acts all the same.
func TestOwnIt(t *testing.T) {
	comes(t, api.OK, "(comp App it (show it))")
	comes(t, api.OK, "(comp App it (let a it) (effect (it) ((log it)) ()) (show (do (log it))))")
	comes(t, api.ErrName, "(comp App it (show none))\n(comp B p (show it))")
	for _, m := range makers() {
		m := put("it", m)
		comes(t, api.OK, plain(m, "it"))
		comes(t, api.ErrName, plain("(let a it)"+m, "it"))
		comes(t, api.OK, plain("(effect () ((log it)) ())"+m+"(effect (it) ((log it)) ())", "(do (log it))"))
		comes(t, api.OK, plain("(let a (do (log it)))"+m, "it"))
		comes(t, api.ErrName, plain(m+m, "it"))
		comes(t, api.ErrName, "(comp App it "+m+" (show none))")
	}
	for _, m := range []string{"(let it %)", "(state it %)", "(memo it (%) 1)", "(memo it () %)"} {
		comes(t, api.ErrName, plain(put("it", m), "none"))
		comes(t, api.OK, plain(put("(do (log it))", m), "it"))
	}
	comes(t, api.OK, plain("", "(each it p it)"))
	comes(t, api.ErrName, plain("", "(each it it it)"))
	comes(t, api.ErrName, plain("", "(list (each it p it) it)"))
	comes(t, api.OK, plain("", "(do (log (each it it it)) (log it))"))
	comes(t, api.OK, plain("", "(each it p (do (log it)))"))
}

// P6.1: names are unlike as texts are: no beginning, no case, no end is left out.
func TestAlike(t *testing.T) {
	all := []string{"x", "X", "x-", "x.", "-x", "xx", "x1", "x#0", "x:y", "x!", "it-", "yes-", "none.", strings.Repeat("x", api.MaxText), strings.Repeat("x", api.MaxText-1), strings.Repeat("x", api.MaxText-1) + "y"}
	for _, a := range all {
		for _, b := range all {
			comes(t, truly(a == b), plain("(let "+a+" 1)", b))
			comes(t, truly(a != b), plain("(let "+a+" 1) (let "+b+" 1)", "none"))
			comes(t, truly(a == b), plain("(state "+a+" 1) (let z (do (set "+b+" 1)))", "none"))
			comes(t, truly(a == b), plain("", "(each "+a+" p "+b+")"))
			comes(t, truly(a == b), plain("", "(new - "+a+" ())")+comp(b, "none"))
			comes(t, truly(a != b), plain("", "(rec ("+a+" 1) ("+b+" 1))"))
			comes(t, truly(a != b), plain("", "none")+comp(a, "none")+comp(b, "none"))
		}
	}
}
