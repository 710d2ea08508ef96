package lex_test

import (
	"regexp"
	"slices"
	"strconv"
	"strings"
	"testing"

	"tapestry/api"
	"tapestry/lex"
	"tapestry/value"
)

// The chapter's words once more, by patterns: the first one that fits is taken.
var patterns = []struct {
	re   *regexp.Regexp
	kind api.WordKind
}{
	{regexp.MustCompile(`^\(`), api.WOpen},
	{regexp.MustCompile(`^\)`), api.WClose},
	{regexp.MustCompile(`^"(?:[^"\\\n]|\\["\\n])*"`), api.WText},
	{regexp.MustCompile(`^(?:0|-?[1-9][0-9]*)`), api.WInt},
	{regexp.MustCompile(`^(?:[A-Za-z_:.#!?]|-[A-Za-z_:.#!?-])[A-Za-z0-9_:.#!?-]*`), api.WName},
	{regexp.MustCompile(`^-`), api.WName},
}

var (
	idle   = regexp.MustCompile(`^(?:[ \t\n]|;[^\n]*)+`)
	inName = regexp.MustCompile(`^[A-Za-z0-9_:.#!?-]`)
)

// read goes by the patterns through a text of few bytes.
func read(s string) ([]api.Word, int, api.Errno) {
	var l []api.Word
	at := 0
	for {
		at += len(idle.FindString(s[at:]))
		if at == len(s) {
			return l, 0, api.OK
		}
		line := strings.Count(s[:at], "\n")
		w, n := first(s[at:])
		if n == 0 {
			return nil, line, api.ErrWord
		}
		w.Line = line
		l = append(l, w)
		at += n
	}
}

// first is the word that s begins with, and how many bytes it has; 0: there is none.
func first(s string) (api.Word, int) {
	for _, p := range patterns {
		all := p.re.FindString(s)
		if all == "" {
			continue
		}
		w := api.Word{Kind: p.kind}
		switch p.kind {
		case api.WText:
			w.S = strings.NewReplacer(`\\`, `\`, `\"`, `"`, `\n`, "\n").Replace(all[1 : len(all)-1])
		case api.WInt:
			w.N, _ = strconv.ParseInt(all, 10, 64)
		case api.WName:
			w.S = all
		}
		if p.kind == api.WInt && inName.MatchString(s[len(all):]) || all == "-" && inName.MatchString(s[1:]) {
			return api.Word{}, 0
		}
		return w, len(all)
	}
	return api.Word{}, 0
}

// each hands on all texts of at most n of these parts.
func each(n int, parts []string, f func(s string)) {
	f("")
	if n == 0 {
		return
	}
	for _, p := range parts {
		each(n-1, parts, func(s string) { f(p + s) })
	}
}

// P3.1, P3.2: all short texts of some bytes, held against the patterns; where there are words, what follows of them.
func TestShortTexts(t *testing.T) {
	good, bad := 0, 0
	each(5, []string{"(", `"`, `\`, "n", "-", "0", "7", "#", "\n", ";", ",", "\xe2"}, func(s string) {
		want, wantLine, wantErrno := read(s)
		l, line, errno := lex.Words(s)
		if !slices.Equal(l, want) || line != wantLine || errno != wantErrno {
			t.Fatalf("%q: %s, line %d, error %d, want %s, line %d, error %d", s, tell(l), line, errno, tell(want), wantLine, wantErrno)
		}
		if errno != api.OK {
			bad++
			return
		}
		good++
		for i := range l[min(1, len(l)):] {
			if l[i].Line > l[i+1].Line {
				t.Fatalf("%q: lines fall: %s", s, tell(l))
			}
		}
		follows(t, l)
	})
	if good < 1000 || bad < 1000 {
		t.Errorf("%d texts have words, %d have none", good, bad)
	}
}

// follows: with something idle between each two words as they stand, are they the same?
func follows(t *testing.T, l []api.Word) {
	t.Helper()
	all := make([]string, len(l))
	for i, w := range l {
		all[i] = asItStands(w)
		l[i].Line = 0
	}
	comes(t, strings.Join(all, " "), l...)
	for i := range l {
		l[i].Line = 2*i + 1
	}
	comes(t, " \n"+strings.Join(all, ";(\"\n\n")+"\t;", l...)
}

// P3.2: every text in quotes, of at most MaxText bytes, is one word.
func TestQuotedTexts(t *testing.T) {
	all := []string{"", "a", `"`, `\`, "\n", `\n`, `\\`, `\"`, "a\"b\\\n", "\\\n", ";", "( 5 )", "\x00\t\r\x7f\x80\xff", "é→😀", "\xe2", long(api.MaxText)}
	for _, s := range []string{`"`, `\`, "\n", "\xff", "é"} {
		all = append(all, strings.Repeat(s, api.MaxText/len(s)))
	}
	for b := range 256 {
		all = append(all, string([]byte{byte(b)}), string([]byte{'\\', byte(b)}), string([]byte{byte(b), '"'}))
	}
	for _, s := range all {
		told := value.Text(api.Value{Kind: api.Text, S: s})
		comes(t, told, text(s))
		comes(t, told+told+told, text(s), text(s), text(s))
	}
}

// P3.2: every text of a number, and of a name, is one word.
func TestToldNumbersAndNames(t *testing.T) {
	numbers := []int64{0}
	for i := range 63 {
		for _, n := range []int64{1<<i - 1, 1 << i, 1<<i + 1} {
			numbers = append(numbers, n, -n, -n-1)
		}
	}
	for n := int64(1); n < 1e18; n *= 10 {
		numbers = append(numbers, n, -n, 9*n, -9*n, n-1)
	}
	for _, n := range numbers {
		comes(t, value.Text(api.Value{Kind: api.Int, N: n}), number(n))
	}
	for i := range len(nameBytes) {
		for j := range len(nameBytes) {
			s := nameBytes[i:i+1] + nameBytes[j:j+1]
			if strings.Contains(digits, s[:1]) || s[0] == '-' && strings.Contains(digits, s[1:]) {
				continue
			}
			comes(t, s, name(s))
			comes(t, s+s+s, name(s+s+s))
		}
	}
}
