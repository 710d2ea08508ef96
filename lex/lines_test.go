package lex_test

import (
	"strings"
	"testing"

	"tapestry/api"
	"tapestry/lex"
)

// P3.1: the line of each word.
func TestLines(t *testing.T) {
	comes(t, "\n(a\n  -5;r\n\n\t\"x\\ny\" ) ; )\n)\n", in(1, opens()), in(1, name("a")), in(2, number(-5)), in(4, text("x\ny")), in(4, closes()), in(5, closes()))
	comes(t, "\"\\n\\n\" a", text("\n\n"), name("a"))
	comes(t, ";\xf0\n;\xe2\x82\n\"\xff\xc3\"\na", in(2, text("\xff\xc3")), in(3, name("a")))
}

// P3.1: the line of an error is that of the byte, whatever stands ahead of it and behind it.
func TestLinesOfErrors(t *testing.T) {
	heads := map[string]int{"": 0, "\n": 1, "a\n": 1, "(\n;\n\"\\n\"\n": 3, ";\xc3\n\n": 2, strings.Repeat("\n", 500): 500, strings.Repeat("a;b\n", 500): 500, "a\n\n\n5 \"x\" ": 3}
	faults := []string{",", "\r", "\x00", "\x80", "é", `\`, "'", "[", "{", "+5", "5a", "-5a", "00", "-0", "9223372036854775808", `"`, `"a`, `"\`, `"\q"`, "\"\n\"", "\"a\n\n\"", `"` + long(api.MaxText+1) + `"`, long(api.MaxText + 1)}
	for head, n := range heads {
		for _, fault := range faults {
			for _, tail := range []string{"", "\n", "\n\n,", " a", "\n(a)\n", "\n\"", ";"} {
				fails(t, head+fault+tail, n)
			}
		}
	}
}

// P3.1: the first one of several errors is told.
func TestFirstError(t *testing.T) {
	fails(t, "a\n,\n,", 1)
	fails(t, "a\n\"b\n,", 1)
	fails(t, "a\n5a\n\"", 1)
	fails(t, "\n\n01 ,", 2)
	fails(t, "; ,\n,", 1)
	fails(t, "\",\n\"", 0)
}

// R5: the same text, the same answer, whatever was read in between.
func TestAgain(t *testing.T) {
	for _, s := range []string{"(a\n-5 \"x\")", "a\n,", "", long(api.MaxSource + 1)} {
		l, line, errno := lex.Words(s)
		for _, between := range []string{"\n\n\n,", "b\nc", ""} {
			lex.Words(between)
			again, line2, errno2 := lex.Words(s)
			if tell(l) != tell(again) || line != line2 || errno != errno2 {
				t.Errorf("%.40q: %s, %d, %d", s, tell(again), line2, errno2)
			}
		}
	}
}

// R4: an answer is memory of its own, spare room too.
func TestMemory(t *testing.T) {
	for _, s := range []string{"a", "(a\n-5 \"x\")", strings.Repeat("( a ", 100)} {
		l, _, _ := lex.Words(s)
		want := tell(l)
		again, _, _ := lex.Words(s)
		all := again[:cap(again)]
		for i := range all {
			all[i] = api.Word{Kind: api.WInt, N: 77}
		}
		third, _, _ := lex.Words(s)
		if tell(l) != want || tell(third) != want {
			t.Errorf("%.40q: %s, %s", s, tell(l), tell(third))
		}
		places := map[*api.Word]bool{}
		for i := range l[:cap(l)] {
			places[&l[:cap(l)][i]] = true
		}
		for i := range all {
			if places[&all[i]] {
				t.Fatalf("%.40q: memory is shared", s)
			}
		}
	}
}
