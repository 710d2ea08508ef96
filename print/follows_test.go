package print_test

import (
	"strings"
	"testing"

	"tapestry/api"
	"tapestry/parse"
	"tapestry/print"
)

// idle are what may stand between words.
var idle = []string{" ", "  ", "\n", "\t", " \n\t ", ";\n", "; ( \" x\n", " ;;\n\n"}

// P5.2: however a text is laid out, what Parse tells of it has one text, and that one's program is the same.
func TestLaidOut(t *testing.T) {
	for i, s := range whole() {
		p := of(t, s)
		l := words(p)
		for j, between := range idle {
			other := strings.Join(l, between)
			tells(t, of(t, other), s)
			tells(t, of(t, between+other+between), s)
			mixed := ""
			for k, w := range l {
				mixed += w + idle[(i+j+k*k)%len(idle)]
			}
			tells(t, of(t, mixed), s)
		}
		// Without any blank that need not be.
		tight := strings.NewReplacer(" (", "(", ") ", ")", `" `, `"`, ` "`, `"`, "\n", "").Replace(s)
		tells(t, of(t, tight), s)
		told, _ := print.Text(of(t, tight))
		if q := of(t, told); !samePrograms(p, q) {
			t.Errorf("%q is another program", told)
		}
	}
}

// P5.2: Parse leads back from Text, for all rows.
func TestBack(t *testing.T) {
	for _, s := range exprTexts() {
		for _, a := range append(aroundExpr(), "%") {
			p := of(t, shown(put(s, a)))
			told, errno := print.Text(p)
			if q, _, e := parse.Parse(told); errno != api.OK || e != api.OK || !samePrograms(p, q) {
				t.Errorf("%q: errors %d, %d, or another program", told, errno, e)
			}
		}
	}
}

// P5.2: of programs one behind the other, the text is that of both.
func TestBehind(t *testing.T) {
	for _, a := range append(whole(), "") {
		for _, b := range append(whole(), "") {
			tells(t, append(of(t, a), of(t, b)...), a+b)
		}
	}
}

// P5.2: programs that are not the same have unlike texts, of which none begins the other one, unless components do.
func TestUnlike(t *testing.T) {
	var all []string
	for _, s := range exprTexts() {
		all = append(all, shown(s), stated("(let a "+s+")"))
	}
	all = append(all, whole()[1:]...)
	told := map[string]int{}
	for i, s := range all {
		text, _ := print.Text(of(t, s))
		if j, ok := told[text]; ok {
			t.Errorf("%q and %q are told alike", s, all[j])
		}
		told[text] = i
	}
	for a, i := range told {
		for b, j := range told {
			if i != j && strings.HasPrefix(a, b) && !begins(of(t, a), of(t, b)) {
				t.Errorf("%q begins %q", b, a)
			}
		}
	}
}
