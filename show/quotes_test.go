package show_test

import (
	"strings"
	"testing"

	"tapestry/api"
)

// everywhere is a text told in each place where one may stand.
func everywhere(s string) ([]api.Node, string) {
	n := with(host(s, leaf(s), with(host("p"), field("a", words(s)))), field(s, words(s)))
	q := quotedBy(s)
	return nodes(leaf(s), n), q + ` (` + q + ` {` + q + ` ` + q + `} [` + q + ` ("p" {"a" ` + q + `} [])])`
}

// P11.1, P11.2: each byte within quotes, and each two of some of them.
func TestQuotes(t *testing.T) {
	for b := range 256 {
		s := string([]byte{byte(b)})
		want := `"` + s + `"`
		switch b {
		case '"':
			want = `"\""`
		case '\\':
			want = `"\\"`
		case 10:
			want = `"\n"`
		}
		tells(t, nodes(leaf(s)), want)
		for _, s := range []string{s, "a" + s, s + "a", s + s, s + "é", "\xc3" + s} {
			l, want := everywhere(s)
			tells(t, l, want)
		}
	}
	some := "\"\\\nnr t;()[]{}05-\x00\t\r\x7f\x80\xa9\xc3\xff"
	for i := range some {
		for j := range some {
			l, want := everywhere(string([]byte{some[i], some[j]}))
			tells(t, l, want)
		}
	}
	for _, s := range []string{`\n`, `\"`, `\\`, `"p" {} [])`, `("p" {} [])`, `" "`, "]) ", "yes", "none", "5", "é→😀", "\xe2\x86", strings.Repeat("\n", 300), strings.Repeat(`\"`, 300)} {
		l, want := everywhere(s)
		tells(t, l, want)
	}
}

// P11.2: quotes that are not told as Text tells them.
func TestOtherQuotes(t *testing.T) {
	for _, s := range []string{
		`"`, `"a`, `a"`, `a`, `'a'`, `"\`, `"\"`, `"\a"`, `"\ "`, `"\N"`, `"\t"`, `"\r"`, `"\0"`, `"\x41"`, `"\u0041"`, `"a\"`, `"\\\"`, `"\\"a"`, `"a"b"`, `"""`, `""a`, `""""`,
		"\"\n\"", "\"a\nb\"", "\"\\\n\"", "\"\\\\\n\"", "\"a\n", `"\é"`, "\"\\\xff\"", "`a`", `“a”`,
	} {
		for _, c := range []struct{ ahead, behind string }{{"", ""}, {"(", ` {} [])`}, {`("p" {`, ` 1} [])`}, {`("p" {"a" `, `} [])`}, {`("p" {} [`, `])`}, {`"x" `, ` "y"`}} {
			readsNone(t, c.ahead+s+c.behind)
		}
	}
	for _, s := range []string{`""`, `"a"`, `"\""`, `"\\"`, `"\n"`, `"\\n"`, `"n"`, `"\\\\"`, `"\"\""`, "\"\t\r\x00\"", `"'"`} {
		if !held(t, s) || !held(t, `("p" {"a" `+s+`} [`+s+`])`) {
			t.Errorf("%q is one", s)
		}
	}
}
