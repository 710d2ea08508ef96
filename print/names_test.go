package print_test

import (
	"strings"
	"testing"

	"tapestry/api"
)

const keyWords = "if each read throw rec do host new pure frag portal give guard wait"

// namesAt: each place where a NAME stands, alone and behind others.
func namesAt() []string {
	l := []string{
		"(comp HERE p (show none))\n", "(comp App HERE (show none))\n", "(comp App p (show none))\n(comp HERE p (show none))\n",
		stated("(let HERE 1)"), stated("(state HERE 1)"), stated("(memo HERE () 1)"), stated("(use HERE c)"), stated("(use c HERE)"),
		stated("(let a 1) (let HERE 1)"), stated("(when x (let HERE 1))"), stated("(when x (when y (use a HERE)))"), stated("(when HERE)"),
		stated("(memo m (HERE) 1)"), stated("(layout (HERE) () ())"), stated("(layout () ((set HERE 1)) ())"), stated("(layout () () ((set HERE 1)))"),
		stated("(effect (HERE) () ())"), stated("(effect () ((stop) (set HERE 1)) ())"), stated("(effect () () ((log HERE)))"),
		shown("HERE"), shown("(f HERE)"), shown("(each HERE 1 2)"), shown("(rec (HERE 1))"), shown("(rec (a 1) (HERE 2))"), shown("(do (set HERE 1))"), shown("(do (fail HERE))"),
		shown("(host - HERE ())"), shown("(new - HERE ())"), shown("(pure k HERE () 1)"), shown("(portal - HERE)"), shown("(give - HERE 1)"),
		shown("(host - a ((HERE 1)))"), shown("(new - a ((b 1) (HERE 1)) 2)"), shown("(pure - a ((HERE 1) (b 1)))"),
		shown("(frag HERE)"), shown("(frag - HERE)"), shown("(guard - HERE 1)"), shown("(wait - HERE)"), shown("(give - a HERE)"),
	}
	return l
}

// isName is chapter 3's and 4's word, by the bytes.
func isName(s string) bool {
	const letters = "abcdefghijklmnopqrstuvwxyzABCDEFGHIJKLMNOPQRSTUVWXYZ"
	if strings.Trim(s, letters+"0123456789-_:.#!?") != "" || len(s) > api.MaxText {
		return false
	}
	for i := range len(s) {
		if !strings.Contains(letters+"0123456789-_:.#!?", s[i:i+1]) {
			return false
		}
	}
	switch s {
	case "", "yes", "no", "none", "-":
		return false
	}
	first := strings.TrimPrefix(s, "-")
	return first == "" || first[0] < '0' || first[0] > '9'
}

// someNames: names, and texts that are none.
func someNames() (good, bad []string) {
	good = []string{
		"a", "Z", "comp", "show", "let", "stop", "value", "again", "else", "Yes", "NO", "nonesuch", "yes-", "none.", "no?", "--", "---", "-a", "-_", "--5", "_", ":", ".", "#", "!", "?",
		"a5", "a-5", "x.5", "_0", "on:click", "at:top", "App#0", long(api.MaxText - 1), long(api.MaxText), "-" + long(api.MaxText-1),
	}
	good = append(good, strings.Fields(keyWords)...)
	bad = []string{
		"", "yes", "no", "none", "-", "0", "5", "5a", "-5", "-5a", "-0", "05", "9223372036854775808", "-9223372036854775809", "5.", "5-", "1#",
		" ", " a", "a ", "a b", "a\tb", "a\n", "\na", "a;b", "a;", ";a", "a,b", ",", "a/b", "a(", "(", ")", "(a)", "a)", `"`, `"a"`, `a"b"`, `a\b`, "a\x00", "\x00", "é", "aé", "\xff", "a\x80",
		"yes no", "a=b", "a*", "a+b", "$", "@a", "a'b", "[", "{a}", "~", "|", "a%", "&", "<a>", "^", "`", long(api.MaxText + 1), long(api.MaxSource), long(api.MaxSource + 1), long(1 << 20),
		long(api.MaxText) + ";", strings.Repeat("a ", api.MaxText), strings.Repeat("(", api.MaxText),
	}
	return good, bad
}

// P5.1: in each place where a NAME stands: names, and what is none.
func TestNames(t *testing.T) {
	good, bad := someNames()
	for _, at := range namesAt() {
		for _, n := range good {
			tells(t, renamed(t, at, n), strings.ReplaceAll(at, "HERE", n))
		}
		for _, n := range bad {
			fails(t, renamed(t, at, n), api.ErrArg, "%.40q as the name in %q", n, at)
		}
	}
}

// P5.1: each byte, alone, ahead of others, among them and behind them.
func TestBytesOfNames(t *testing.T) {
	for b := range 256 {
		one := string([]byte{byte(b)})
		for _, n := range []string{one, one + "a", "a" + one, "a" + one + "b", one + one, "-" + one, one + "5", "a" + one + "5"} {
			for _, at := range []string{shown("HERE"), stated("(let HERE 1)"), shown("(HERE)")} {
				p := renamed(t, at, n)
				if isName(n) {
					tells(t, p, strings.ReplaceAll(at, "HERE", n))
				} else {
					fails(t, p, api.ErrArg, "%q as the name in %q", n, at)
				}
			}
		}
	}
}

// P5.1: an OP is a name that is no key word.
func TestOps(t *testing.T) {
	good, bad := someNames()
	for _, at := range []string{shown("(HERE)"), shown("(HERE x)"), shown("(f (HERE 1 2 3))"), stated("(let a (HERE 1))"), stated("(effect () ((log (HERE))) ())"), shown("(frag (HERE))")} {
		for _, n := range good {
			if contains(keyWords, n) {
				fails(t, renamed(t, at, n), api.ErrArg, "%q as the OP in %q", n, at)
			} else {
				tells(t, renamed(t, at, n), strings.ReplaceAll(at, "HERE", n))
			}
		}
		for _, n := range bad {
			fails(t, renamed(t, at, n), api.ErrArg, "%.40q as the OP in %q", n, at)
		}
	}
	// With as many expressions as the key word's own row says, too.
	for _, word := range strings.Fields(keyWords) {
		for n := range 5 {
			fails(t, renamed(t, shown("(HERE"+strings.Repeat(" x", n)+")"), word), api.ErrArg, "the OP %s of %d", word, n)
		}
	}
}

// P5.1: texts may be longer than may be in no place that holds one.
func TestLongTexts(t *testing.T) {
	for _, at := range []string{shown(`"HERE"`), shown(`(f 1 "HERE")`), shown(`(frag "HERE")`), shown(`(host - a ((b "HERE")))`), stated(`(let a "HERE")`), stated(`(memo a ("HERE") 1)`), shown(`(do (log "HERE"))`)} {
		for _, one := range []string{"x", `"`, "\n", "\xff"} {
			most := strings.Repeat(one, api.MaxText)
			tells(t, renamed(t, at, most), strings.ReplaceAll(at, `"HERE"`, quoted(most)))
			fails(t, renamed(t, at, most+"x"), api.ErrArg, "a text of a byte more in %q", at)
		}
		fails(t, renamed(t, at, long(1<<20)), api.ErrArg, "a text that is far too long in %q", at)
	}
}
