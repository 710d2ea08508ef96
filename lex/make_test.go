package lex_test

import (
	"slices"
	"strconv"
	"strings"
	"testing"

	"tapestry/api"
	"tapestry/lex"
)

// What the tests make words by.

func name(s string) api.Word { return api.Word{Kind: api.WName, S: s} }

func number(n int64) api.Word { return api.Word{Kind: api.WInt, N: n} }

func text(s string) api.Word { return api.Word{Kind: api.WText, S: s} }

func opens() api.Word { return api.Word{Kind: api.WOpen} }

func closes() api.Word { return api.Word{Kind: api.WClose} }

func in(line int, w api.Word) api.Word {
	w.Line = line
	return w
}

// long is a text of n bytes.
func long(n int) string { return strings.Repeat("x", n) }

// comes: are these the words?
func comes(t *testing.T, s string, want ...api.Word) {
	t.Helper()
	l, line, errno := lex.Words(s)
	if errno != api.OK || line != 0 || !slices.Equal(l, want) {
		t.Errorf("%.60q: %.200s, line %d, error %d, want %.200s", s, tell(l), line, errno, tell(want))
	}
}

// fails: is it ErrWord in that line, and are there no words?
func fails(t *testing.T, s string, want int) {
	t.Helper()
	l, line, errno := lex.Words(s)
	if errno != api.ErrWord || line != want || len(l) > 0 {
		t.Errorf("%.60q: %.200s, line %d, error %d, want ErrWord in the line %d", s, tell(l), line, errno, want)
	}
}

// limit: is it ErrLimit, and nothing else?
func limit(t *testing.T, s string) {
	t.Helper()
	if l, line, errno := lex.Words(s); errno != api.ErrLimit || line != 0 || len(l) > 0 {
		t.Errorf("%.60q: %.200s, line %d, error %d, want ErrLimit", s, tell(l), line, errno)
	}
}

func tell(l []api.Word) string {
	var all []string
	for _, w := range l {
		all = append(all, strconv.Itoa(w.Line)+":"+strconv.Itoa(int(w.Kind))+":"+strconv.Quote(w.S)+":"+strconv.FormatInt(w.N, 10))
	}
	return strings.Join(all, " ")
}

// asItStands is the word as it stands in a program.
func asItStands(w api.Word) string {
	switch w.Kind {
	case api.WOpen:
		return "("
	case api.WClose:
		return ")"
	case api.WInt:
		return strconv.FormatInt(w.N, 10)
	case api.WText:
		return `"` + strings.NewReplacer(`"`, `\"`, `\`, `\\`, "\n", `\n`).Replace(w.S) + `"`
	}
	return w.S
}
