package lex_test

import (
	"strings"
	"testing"

	"tapestry/api"
)

// P3.1: the chapter's examples.
func TestExamples(t *testing.T) {
	comes(t, `(a -5 "x\"y")`, opens(), name("a"), number(-5), text(`x"y`), closes())
	comes(t, "a;b\nc", name("a"), in(1, name("c")))
	comes(t, "on:click -- -a a1", name("on:click"), name("--"), name("-a"), name("a1"))
	for _, s := range []string{"5a", "01", "-0", "9223372036854775808", `"a`, `"a\x"`} {
		fails(t, s, 0)
	}
	fails(t, "a\n\n,", 2)
	comes(t, `a"b"(5)-`, name("a"), text("b"), opens(), number(5), closes(), name("-"))
	comes(t, "")
	comes(t, ";")
	limit(t, strings.Repeat(" ", 65537))
	fails(t, `"`+long(4097)+`"`, 0)
}

// sample is a word as it stands, and what it is.
type sample struct {
	s    string
	word api.Word
}

// run: is it made of name's bytes?
func (c sample) run() bool { return c.word.Kind == api.WName || c.word.Kind == api.WInt }

// samples are of each kind.
func samples() []sample {
	return []sample{
		{"(", opens()}, {")", closes()},
		{`""`, text("")}, {`"x"`, text("x")}, {`"(a; 5"`, text("(a; 5")}, {`"\"\\\n"`, text("\"\\\n")},
		{"0", number(0)}, {"5", number(5)}, {"-5", number(-5)}, {"10", number(10)}, {"123456789", number(123456789)},
		{"a", name("a")}, {"-", name("-")}, {"--", name("--")}, {"-a", name("-a")}, {"--5", name("--5")}, {"a5", name("a5")}, {"a-5", name("a-5")},
		{":", name(":")}, {"_5", name("_5")}, {"aZ-_:.#!?09", name("aZ-_:.#!?09")}, {"yes", name("yes")}, {"App#0", name("App#0")},
	}
}

// idles are what may stand between words, each with its lines.
func idles() map[string]int {
	return map[string]int{
		" ": 0, "\t": 0, "\n": 1, "  \t ": 0, " \n\t\n ": 2, ";\n": 1, ";remark\n": 1, " ; ( \" 5a \\ , ) \x00\xff\n\t": 1,
		";;\n;\n": 2, ";\"\n": 1, ";\r\n": 1, ";é\n": 1, ";\xe2\n;\xf0\x9f\n": 2, strings.Repeat("\n", 1000): 1000, strings.Repeat(";(\n", 1000): 1000,
	}
}

// P3.1: each word alone, and each idle thing ahead of it and behind it.
func TestEachWord(t *testing.T) {
	for _, c := range samples() {
		comes(t, c.s, c.word)
		for s, n := range idles() {
			comes(t, s+c.s, in(n, c.word))
			comes(t, c.s+s, c.word)
			comes(t, s+c.s+s, in(n, c.word))
		}
		comes(t, c.s+";", c.word)
		comes(t, c.s+"; "+c.s, c.word)
	}
}

// P3.1: each two words with something idle between them, and right beside one another, where they are told apart without it.
func TestEachTwoWords(t *testing.T) {
	for _, a := range samples() {
		for _, b := range samples() {
			for s, n := range idles() {
				comes(t, a.s+s+b.s, a.word, in(n, b.word))
			}
			if !a.run() || !b.run() {
				comes(t, a.s+b.s, a.word, b.word)
				comes(t, a.s+b.s+"\n"+a.s, a.word, b.word, in(1, a.word))
			}
		}
	}
}

// P3.1: name's bytes right beside one another are one word, as long as can be, or none.
func TestRuns(t *testing.T) {
	for s, w := range map[string]api.Word{
		"55": number(55), "50": number(50), "-55": number(-55), "-50": number(-50), "-1": number(-1), "1000": number(1000),
		"aa": name("aa"), "a5": name("a5"), "a05": name("a05"), "a-0": name("a-0"), "a--": name("a--"), "a-5a": name("a-5a"), "-a5": name("-a5"), "-a-5": name("-a-5"),
		"---": name("---"), "--0": name("--0"), "--05": name("--05"), "--5a": name("--5a"), "--a": name("--a"), "-_5": name("-_5"), "-:": name("-:"), "-.5": name("-.5"),
		".5": name(".5"), "_": name("_"), ".": name("."), "#": name("#"), "!": name("!"), "?": name("?"), "#5": name("#5"), "!5": name("!5"), "?-5": name("?-5"),
	} {
		comes(t, s, w)
	}
	for _, s := range []string{"5-5", "5-", "5--", "05", "00", "-05", "-00", "-0a", "0a", "00a", "-5a", "-5-", "-5-5", "0-0", "5.5", "-5.", "1e3", "0x1", "1_000", "5:", "5#0", "5!", "5?", "5_"} {
		fails(t, s, 0)
		fails(t, "a\n("+s+")", 1)
	}
}

// P3.1: what stands behind a minus.
func TestMinus(t *testing.T) {
	comes(t, "-", name("-"))
	comes(t, "- 5", name("-"), number(5))
	comes(t, "-\n5", name("-"), in(1, number(5)))
	comes(t, "-;\n-5", name("-"), in(1, number(-5)))
	comes(t, "-(", name("-"), opens())
	comes(t, `-"5"`, name("-"), text("5"))
	comes(t, "(-)", opens(), name("-"), closes())
	comes(t, "(-5)", opens(), number(-5), closes())
	for b := range 256 {
		s := "-" + string([]byte{byte(b)})
		switch {
		case b == '0' || badBytes(byte(b)) || b == '"':
			fails(t, s, 0)
		case b > '0' && b <= '9':
			comes(t, s, number(-int64(b-'0')))
		case strings.IndexByte(nameBytes, byte(b)) >= 0:
			comes(t, s, name(s))
		}
	}
}

// P3.1: what is in a remark is idle, whatever it is, up to the next byte 10 or the end.
func TestRemarks(t *testing.T) {
	comes(t, "; a")
	comes(t, ";;;")
	comes(t, ";\"")
	comes(t, ";\\")
	comes(t, "a;", name("a"))
	comes(t, "a;b", name("a"))
	comes(t, "a ; b ; c\nd", name("a"), in(1, name("d")))
	comes(t, ";a\n;b\nc", in(2, name("c")))
	comes(t, ";a\r b\nc", in(1, name("c")))
	comes(t, "5;a", number(5))
	comes(t, `";"`, text(";"))
	comes(t, `"a;b" c`, text("a;b"), name("c"))
	comes(t, "(;)\n)", opens(), in(1, closes()))
	comes(t, "; \"a\n\"b\"", in(1, text("b")))
	fails(t, ";\n\"a;\n\"", 1)
	for b := range 256 {
		s := ";" + string([]byte{byte(b)})
		line := 1
		if b == '\n' {
			line = 2
		}
		comes(t, s)
		comes(t, s+"\na", in(line, name("a")))
	}
}
