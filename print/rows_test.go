package print_test

import (
	"math"
	"strconv"
	"strings"
	"testing"

	"tapestry/api"
)

// exprTexts: each row of expr as it is told, with lists of none, one and many.
func exprTexts() []string {
	return []string{
		"0", "5", "-17", "9223372036854775807", "-9223372036854775808",
		`""`, `"a b"`, `"yes"`, `"-"`, `"\"\\\n;("`, "yes", "no", "none", "x", "on:click", "--", "if", "do", "host",
		"(f)", "(add 1)", `(cat a "b" 3 none)`, "(comp a b)", "(show (stop))",
		"(if a 1 2)", "(each x l 5)", "(each if if if)", `(read "k")`, "(throw none)",
		"(rec)", "(rec (a 1))", "(rec (b 1) (a x) (a yes) (rec (f)))",
		"(do)", "(do (stop))", "(do (set s 1) (log x) (fail no) (stop))", "(do (set s (do (log (do)))) (log (do)))",
		"(frag -)", "(frag 1)", `(frag "-" 1)`, "(frag (f) 1 x (g))", "(frag none none)",
		"(portal - top)", "(portal yes host 1)", `(portal x side 1 none "a")`,
		"(give - c 1)", "(give k value v 1)", "(give no c (f) 1 2 3)",
		"(guard - 1 2)", "(guard else again x 3)", "(guard (f) none no 3 4 5)",
		"(wait - 1)", "(wait 1 2 3)", "(wait (rec) (rec (a 1)) x y z)",
		"(host - a ())", "(host - div () 1)", `(host (f x) host ((id 5)) a "b" (g))`, "(host k Row ((on:x (do)) (b (f)) (a none)) none)",
		"(new - a ())", "(new - div () 1)", `(new (f x) new ((id 5)) a "b" (g))`, "(new k Row ((on:x (do)) (b (f)) (a none)) none)",
		"(pure - a ())", "(pure - div () 1)", `(pure (f x) pure ((id 5)) a "b" (g))`, "(pure k Row ((on:x (do)) (b (f)) (a none)) none)",
	}
}

// aroundExpr: each row of expr that can hold one, with a % where it stands.
func aroundExpr() []string {
	l := []string{
		"(f %)", "(f 1 % 2)", "(f % %)", "(if % 1 2)", "(if 1 % %)", "(each x % 1)", "(each x 1 %)", "(read %)", "(throw %)",
		"(rec (a %))", "(rec (a %) (b 1) (c %))", "(do (set a %))", "(do (log %) (fail %))",
		"(frag %)", "(frag - %)", "(frag % 1 %)", "(portal % a)", "(portal - a %)", "(portal % a 1 %)",
		"(give % a 1 2)", "(give - a %)", "(give - a 1 % 2)", "(guard % 1 2 3)", "(guard - % 2)", "(guard - 1 % 2)", "(guard - 1 2 %)",
		"(wait % 1 2)", "(wait - % 1)", "(wait - 1 %)",
	}
	for _, word := range []string{"host", "new", "pure"} {
		l = append(l, "("+word+" % a ())", "("+word+" - a ((b %)))", "("+word+" - a ((b %) (c 1)) 2)", "("+word+" - a ((b 1) (c %)) % 2 %)", "("+word+" - a () %)")
	}
	return l
}

// actTexts: each row of act, with an expression.
func actTexts(s string) []string {
	return []string{"(stop)", "(set n " + s + ")", "(log " + s + ")", "(fail " + s + ")"}
}

// aroundAct: each place where acts stand.
func aroundAct() []string {
	return []string{
		"(let a (do %))", "(let a (do (stop) % (stop)))", "(layout () (%) ())", "(layout (a b) (% (stop)) ((stop) %))",
		"(effect () (%) ())", "(effect () () (%))", "(effect (a) ((stop) %) (% (stop)))",
	}
}

// aroundInStmt: each row of stmt that can hold an expression.
func aroundInStmt() []string {
	return []string{
		"(let a %)", "(state b %)", "(memo c () %)", "(memo c (%) 1)", "(memo c (x % y) %)", "(when %)", "(when x (let a %))", "(when % (let a 1) (when %) (use d e))",
		"(layout (%) () ())", "(layout (x % 1) ((stop)) ((stop) (stop)))", "(effect (%) () ())", "(effect (% x) ((log %)) ((set a %)))",
	}
}

// aroundStmt: statements in each place where they stand.
func aroundStmt() []string {
	return []string{"%", "(use u v) % % (use u v)", "(when y %)", "(when y (let z 1) %)", "(when y (when x % (let z 1)))"}
}

func put(s, around string) string { return strings.ReplaceAll(around, "%", s) }

// P5.1: each row of expr alone, and within each row of expr that can hold it, byte for byte.
func TestExprRows(t *testing.T) {
	for _, s := range exprTexts() {
		itself(t, shown(s))
		for _, a := range aroundExpr() {
			itself(t, shown(put(s, a)))
			itself(t, shown(put(put("x", a), "(f "+s+" %)")))
		}
	}
}

// P5.1: rows two deep within the others.
func TestExprRowsDeeper(t *testing.T) {
	for _, s := range []string{"-1", `"a"`, "x", "(f)", "(rec (a 1))", "(do (log (do)))", "(host - a ())", "(frag -)", "(wait 1 2)"} {
		for _, a := range aroundExpr() {
			for _, b := range aroundExpr() {
				itself(t, shown(put(put(s, a), b)))
			}
		}
	}
}

// P5.1: each row of stmt, with each row of expr and of act; alone, among others, and within `when`.
func TestStmtRows(t *testing.T) {
	l := []string{"(use a b)", "(use when let)", "(layout () () ())", "(effect () () ())"}
	for _, s := range exprTexts() {
		for _, a := range aroundInStmt() {
			l = append(l, put(s, a))
		}
		for _, act := range actTexts(s) {
			for _, a := range aroundAct() {
				l = append(l, put(act, a))
			}
		}
	}
	for _, s := range l {
		for _, a := range aroundStmt() {
			itself(t, stated(put(s, a)))
		}
	}
}

// P5.1: none, one and many components: a byte 10 behind each, and no other one.
func TestComponents(t *testing.T) {
	all := ""
	itself(t, all)
	for _, n := range []string{"App", "comp", "show", "App", "a", "if", "--", "-x", "#"} {
		all += "(comp " + n + " q" + n + " (let " + n + " \"\\n\") (show " + n + "))\n"
		itself(t, all)
		if p := of(t, all); strings.Count(all, "\n") != len(p) {
			t.Errorf("%q: %d components", all, len(p))
		}
	}
}

// P5.1: numbers, to both ends of their range.
func TestNumbers(t *testing.T) {
	for _, n := range []int64{0, 1, -1, 9, 10, -10, 100, 4096, math.MaxInt32, math.MinInt32, math.MaxInt64, math.MaxInt64 - 1, math.MinInt64, math.MinInt64 + 1} {
		p := api.Program{{Name: "App", Param: "p", Out: api.Expr{Kind: api.ExInt, N: n}}}
		tells(t, p, shown(strconv.FormatInt(n, 10)))
	}
}

// P5.1: texts of each byte, and of each two that stand otherwise in quotes, and those beside them.
func TestTexts(t *testing.T) {
	all := ""
	for b := range 256 {
		one := string([]byte{byte(b)})
		all += one
		told := one
		switch b {
		case '"':
			told = `\"`
		case '\\':
			told = `\\`
		case 10:
			told = `\n`
		}
		for _, ahead := range []string{"", "n", "é"} {
			p := api.Program{{Name: "App", Param: "p", Out: api.Expr{Kind: api.ExText, S: ahead + one + ahead}}}
			tells(t, p, shown(`"`+ahead+told+ahead+`"`))
			if s := plainly(p); !samePrograms(of(t, s), p) {
				t.Errorf("%q is another text", s)
			}
		}
	}
	some := []string{`"`, `\`, "\n", "n", "x", " ", ";", "\xff", "\x00", "\r", "\t"}
	texts := []string{"", all, strings.Repeat(all, api.MaxText/256)}
	for _, a := range some {
		for _, b := range some {
			for _, c := range some {
				texts = append(texts, a+b+c)
			}
		}
		texts = append(texts, strings.Repeat(a, api.MaxText))
	}
	for _, s := range texts {
		tells(t, api.Program{{Name: "App", Param: "p", Out: api.Expr{Kind: api.ExText, S: s}}}, shown(quoted(s)))
	}
}
