package parse_test

import (
	"strings"
	"testing"

	"tapestry/api"
	"tapestry/lex"
)

// P4.1: texts without words are programs without components.
func TestNoWords(t *testing.T) {
	for _, s := range []string{"", " ", "\n", "\t \n\n", ";", "; (comp", "; (comp App p (show none))", ";\n ;,\n\n"} {
		parses(t, s)
		parses(t, s+"\n"+empty+s, comp(none()))
	}
}

// P4.1: what is idle between words makes no difference; the line is that of the word, not of what stands ahead of it or behind it.
func TestLines(t *testing.T) {
	for idle, n := range map[string]int{" ": 0, "\n": 1, "\n\n\n": 3, "\t;x\n": 1, ";(\n;\"\n ": 2} {
		l := strings.Fields("( comp App p ( show none ) )")
		parses(t, idle+strings.Join(l, idle)+idle, comp(none()))
		for i := range l {
			cut := idle + strings.Join(l[:i+1], idle) + idle
			if i == len(l)-1 {
				fails(t, cut+")"+idle, (i+2)*n, api.ErrSyntax)
				fails(t, cut+"x"+idle+"(", (i+2)*n, api.ErrSyntax)
				continue
			}
			fails(t, cut, (i+1)*n, api.ErrSyntax)
			fails(t, cut+"-"+idle, (i+2)*n, api.ErrSyntax)
			fails(t, cut+"-"+idle+"x"+idle, (i+2)*n, api.ErrSyntax)
		}
	}
}

// P4.1: words that end too early are told at the last one, what cannot stand is told where it stands, whatever comes behind it.
func TestFirstWord(t *testing.T) {
	for s, line := range map[string]int{
		"(":                                 0,
		"\n\n(\n":                           2,
		"(comp\n":                           0,
		"(comp\nA\np\n\n\n; behind":         2,
		"(comp A p\n(show\nnone\n)\n;":      3,
		empty + "\n\n(":                     2,
		empty + "\n)\n\nx":                  1,
		")\n(":                              0,
		"\n5\n":                             1,
		"\"x\"\n(comp App p (show none))":   0,
		"(comp App p\n(let x 1\n2)\n(show":  2,
		"(comp App p (show\n1\n2\n))":       2,
		"(comp App p (show 1)\n(let x 1))":  1,
		"(comp App p (show 1)\n)\n)":        2,
		"(comp App p\n(let if 5)\nfoo\n\"":  2,
		"(comp App p (show (if 1 2\n3\n4":   2,
		"(comp App p (show (do (stop\n1)))": 1,
	} {
		if strings.HasSuffix(s, `"`) {
			fails(t, s, strings.Count(s, "\n"), api.ErrWord)
			s = s[:len(s)-1]
		}
		fails(t, s, line, api.ErrSyntax)
	}
}

// P4.1: the error of lex.Words and its line come ahead of all that the words would be.
func TestErrorsOfWords(t *testing.T) {
	for _, bad := range []string{",", "5a", "01", "-0", "9223372036854775808", `"a`, `"a\x"`, "\"a\nb\"", "é", "\xff", "\x00", "[", long(api.MaxText + 1), `"` + long(api.MaxText+1) + `"`} {
		for _, ahead := range []string{"", "\n\n", empty + "\n", ") x\n", "(comp\nApp p (show\n(f ", empty + "; remark\n5 5 5\n\n"} {
			for _, behind := range []string{"", "\n", " ))\n)", "\n" + empty} {
				s := ahead + bad + behind
				fails(t, s, strings.Count(ahead, "\n"), api.ErrWord)
				if _, line, errno := lex.Words(s); errno != api.ErrWord || line != strings.Count(ahead, "\n") {
					t.Fatalf("%q: the words have line %d, error %d", s, line, errno)
				}
			}
		}
	}
}
