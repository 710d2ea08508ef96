package lex_test

import (
	"strings"
	"testing"
)

const (
	digits    = "0123456789"
	letters   = "abcdefghijklmnopqrstuvwxyzABCDEFGHIJKLMNOPQRSTUVWXYZ"
	nameBytes = letters + digits + "-_:.#!?"
)

// badBytes: those that are neither idle nor begin a word.
func badBytes(b byte) bool {
	return strings.IndexByte(nameBytes+" \t\n;()\"", b) < 0
}

// P3.1: each byte alone.
func TestEachByte(t *testing.T) {
	bad := 0
	for b := range 256 {
		s := string([]byte{byte(b)})
		switch {
		case strings.Contains(" \t\n;", s):
			comes(t, s)
		case s == "(":
			comes(t, s, opens())
		case s == ")":
			comes(t, s, closes())
		case strings.Contains(digits, s):
			comes(t, s, number(int64(b-'0')))
		case strings.Contains(nameBytes, s):
			comes(t, s, name(s))
		default:
			fails(t, s, 0)
			bad++
		}
	}
	if bad != 256-len(nameBytes)-6 { // four that are idle, two brackets
		t.Errorf("%d bytes begin no word", bad)
	}
	for b := range 256 {
		if (b > 126 || b < 32 && b != 9 && b != 10) && !badBytes(byte(b)) {
			t.Errorf("byte %d", b)
		}
	}
}

// P3.1: a byte that begins no word, wherever it stands; no words are answered, whatever stands ahead of it.
func TestBadBytes(t *testing.T) {
	for b := range 256 {
		if !badBytes(byte(b)) {
			continue
		}
		s := string([]byte{byte(b)})
		for _, c := range samples() {
			fails(t, c.s+s, 0)
			fails(t, s+c.s, 0)
			fails(t, c.s+"\n"+s, 1)
			fails(t, "\n"+c.s+" "+s+"\n"+c.s, 1)
		}
		for idle, n := range idles() {
			fails(t, idle+s, n)
			fails(t, "(a"+idle+s+idle+")", n)
		}
	}
}

// P3.1: each byte right behind a number, and right behind a name.
func TestEachByteBehind(t *testing.T) {
	for b := range 256 {
		s := string([]byte{byte(b)})
		switch {
		case strings.Contains(" \t\n;", s):
			comes(t, "7"+s, number(7))
			comes(t, "-7"+s, number(-7))
			comes(t, "x"+s, name("x"))
		case s == "(":
			comes(t, "7"+s, number(7), opens())
			comes(t, "x"+s, name("x"), opens())
		case s == ")":
			comes(t, "7"+s, number(7), closes())
			comes(t, "x"+s, name("x"), closes())
		case strings.Contains(digits, s):
			comes(t, "7"+s, number(int64(70+b-'0')))
			comes(t, "-7"+s, number(-int64(70+b-'0')))
			fails(t, "0"+s, 0)
			fails(t, "-0"+s, 0)
			comes(t, "x"+s, name("x"+s))
		case strings.Contains(nameBytes, s):
			fails(t, "7"+s, 0)
			fails(t, "0"+s, 0)
			fails(t, "-7"+s, 0)
			fails(t, "a\n7"+s+"\n", 1)
			comes(t, "x"+s, name("x"+s))
		default:
			fails(t, "7"+s, 0)
			fails(t, "x"+s, 0)
		}
	}
}

// P3.1: each byte in a text, and each one behind a backslash.
func TestEachByteInTexts(t *testing.T) {
	for b := range 256 {
		s := string([]byte{byte(b)})
		switch s {
		case `"`, `\`, "\n":
			fails(t, `"`+s+`"`, 0)
			fails(t, `"a`+s+`b"`, 0)
		default:
			comes(t, `"`+s+`"`, text(s))
			comes(t, `"a`+s+`b"`, text("a"+s+"b"))
			comes(t, `"`+s+s+s+s+`"`, text(s+s+s+s))
		}
		want, ok := map[string]string{`"`: `"`, `\`: `\`, "n": "\n"}[s]
		if !ok {
			fails(t, `"\`+s+`"`, 0)
			fails(t, `a"x\`+s+`y" b`, 0)
			continue
		}
		comes(t, `"\`+s+`"`, text(want))
		comes(t, `"x\`+s+`y"`, text("x"+want+"y"))
		comes(t, `"\`+s+`\`+s+`"`, text(want+want))
	}
}

// P3.1: texts that are whole, and those that are not.
func TestTexts(t *testing.T) {
	comes(t, `""""`, text(""), text(""))
	comes(t, `"a""b"`, text("a"), text("b"))
	comes(t, `"\\"`, text(`\`))
	comes(t, `"\\\""`, text(`\"`))
	comes(t, `"\\n"`, text(`\n`))
	comes(t, `"\n\\n"`, text("\n\\n"))
	comes(t, `"\\""\""`, text(`\`), text(`"`))
	comes(t, "\"\t\r\x00\x7f\x80\xff\"", text("\t\r\x00\x7f\x80\xff"))
	comes(t, `"é→😀"`, text("é→😀"))
	comes(t, "\"\xe2\" \"\xf0\x9f\"", text("\xe2"), text("\xf0\x9f"))
	for _, s := range []string{`"`, `"a`, `"\`, `"\"`, `"\\\"`, `"a\`, `"a\\`, `"""`, `""a"`, `"\N"`, `"\t"`, `"\0"`, `"\ "`, `"a"\"b"`, "\"\n\"", "\"a\nb\"", "\"a\\\nb\"", "\"\xe2\n\""} {
		fails(t, s, 0)
		fails(t, "a\n5\n"+s, 2)
		fails(t, "a\n5\n"+s+"\n\nb", 2)
	}
}
