package lex_test

import (
	"math"
	"strings"
	"testing"

	"tapestry/api"
	"tapestry/lex"
)

// P3.1: MaxSource bytes are allowed, one more is not, whatever they are.
func TestMaxSource(t *testing.T) {
	const most = api.MaxSource
	comes(t, strings.Repeat(" ", most))
	comes(t, strings.Repeat("\n", most))
	comes(t, ";"+strings.Repeat("x", most-1))
	comes(t, strings.Repeat("\n", most-1)+"a", in(most-1, name("a")))
	comes(t, "a"+strings.Repeat("\n", most-1), name("a"))
	comes(t, ";"+strings.Repeat("x", most-3)+"\na", in(1, name("a")))
	fails(t, strings.Repeat("\n", most-1)+",", most-1)
	fails(t, strings.Repeat("\n;", most/2-1)+"\n,", most/2)
	for _, s := range []string{" ", "\n", ";", ",", "a", "5", `"`, "(", "\xff", "a\n"} {
		limit(t, strings.Repeat(s, most/len(s))+s[:1])
		limit(t, s+strings.Repeat(" ", most))
		limit(t, strings.Repeat("\n", most)+s)
	}
	limit(t, strings.Repeat("(", 1<<20))
	limit(t, `"`+strings.Repeat(" ", most-1)+`"`)
}

// P3.1, R1: as many words as can be, and as long ones.
func TestMany(t *testing.T) {
	const most = api.MaxSource
	for s, w := range map[string]api.Word{"(": opens(), "a ": name("a"), "5\t": number(5), `""`: text(""), `"x"(-)5\`: {}} {
		l, line, errno := lex.Words(strings.Repeat(s, most/len(s)))
		if w.Kind == api.WEnd {
			if errno != api.ErrWord || len(l) > 0 {
				t.Errorf("%q: %d words, error %d", s, len(l), errno)
			}
			continue
		}
		if errno != api.OK || line != 0 || len(l) != most/len(s) {
			t.Fatalf("%q: %d words, line %d, error %d", s, len(l), line, errno)
		}
		for i := range l {
			if l[i] != w {
				t.Fatalf("%q: %s", s, tell(l[i:i+1]))
			}
		}
	}
	l, _, errno := lex.Words(strings.Repeat(")\n", most/2))
	for i := range l {
		if l[i] != in(i, closes()) {
			t.Fatalf("word %d: %s", i, tell(l[i:i+1]))
		}
	}
	if errno != api.OK || len(l) != most/2 {
		t.Errorf("%d words, error %d", len(l), errno)
	}
	for _, s := range []string{"a", "5", "-", "\\"} {
		fails(t, strings.Repeat(s, most), 0)
	}
	fails(t, `"`+strings.Repeat(`\\`, most/2-1)+`"`, 0)
}

// P3.1: a text may stand for MaxText bytes, not for one more; bytes count as what they stand for, not as they stand, and not by runes.
func TestMaxText(t *testing.T) {
	const most = api.MaxText
	for s, one := range map[string]string{"x": "x", `\n`: "\n", `\"`: `"`, `\\`: `\`, "\xff": "\xff"} {
		all := strings.Repeat(s, most)
		whole := text(strings.Repeat(one, most))
		comes(t, `"`+all+`"`, whole)
		comes(t, `a"`+all+`""b"`, name("a"), whole, text("b"))
		for _, more := range []string{"x", `\n`, `\"`, `\\`, s} {
			fails(t, `"`+all+more+`"`, 0)
			fails(t, `"`+more+all+`"`, 0)
			fails(t, "a\n\""+all+more+"\" b\n", 1)
			fails(t, `"`+all+more, 0)
			fails(t, `"`+all+more+`" "b"`, 0)
		}
		fails(t, `"`+all, 0)
		fails(t, `"`+all+`\`, 0)
		fails(t, `"`+all+`\x"`, 0)
		fails(t, `"`+all+"\n\"", 0)
	}
	comes(t, `"`+strings.Repeat("é", most/2)+`"`, text(strings.Repeat("é", most/2)))
	fails(t, `"`+strings.Repeat("é", most/2)+`x"`, 0)
}

// P3.1: a name may have MaxText bytes, not one more.
func TestMaxName(t *testing.T) {
	const most = api.MaxText
	for _, first := range []string{"x", "-", ":", "x5", "--", "?-"} {
		s := first + long(most-len(first))
		comes(t, s, name(s))
		comes(t, "("+s+`)"`+s+`" `+s+";"+s, opens(), name(s), closes(), text(s), name(s))
		for _, more := range []string{"x", "5", "-", "_", "#"} {
			fails(t, s+more, 0)
			fails(t, "a\n("+s+more+")", 1)
			fails(t, s+more+" a", 0)
		}
		fails(t, s+s, 0)
	}
}

// P3.1: numbers from -2^63 to 2^63 - 1.
func TestNumbers(t *testing.T) {
	for s, n := range map[string]int64{
		"0": 0, "1": 1, "-1": -1, "9": 9, "10": 10, "-10": -10, "100000": 100000, "2147483647": 1<<31 - 1, "2147483648": 1 << 31, "-2147483649": -1<<31 - 1, "4294967296": 1 << 32,
		"9223372036854775806": math.MaxInt64 - 1, "9223372036854775807": math.MaxInt64, "-9223372036854775807": -math.MaxInt64, "-9223372036854775808": math.MinInt64,
		"1000000000000000000": 1e18, "-1000000000000000000": -1e18, "8999999999999999999": 8999999999999999999,
	} {
		comes(t, s, number(n))
		comes(t, "("+s+")", opens(), number(n), closes())
	}
	for _, s := range []string{
		"9223372036854775808", "9223372036854775809", "-9223372036854775809", "-9223372036854775810", "9223372036854775810", "9300000000000000000", "10000000000000000000", "-10000000000000000000",
		"18446744073709551615", "18446744073709551616", "18446744073709551617", "-18446744073709551616", "36893488147419103233", "92233720368547758070", "-92233720368547758080",
		"340282366920938463463374607431768211457", "-0", "00", "01", "-01", "-00", "007", "0000000000000000000000000000000000", "09223372036854775807", "-09223372036854775808",
	} {
		fails(t, s, 0)
		fails(t, "a\n"+s+" b", 1)
	}
}
