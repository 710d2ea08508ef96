package parse_test

import (
	"math"
	"strconv"
	"strings"
	"testing"

	"tapestry/api"
	"tapestry/parse"
	"tapestry/value"
)

// What the tests make values by.

func anInt(n int64) api.Value { return api.Value{Kind: api.Int, N: n} }

func aText(s string) api.Value { return api.Value{Kind: api.Text, S: s} }

func aList(l ...api.Value) api.Value { return api.Value{Kind: api.List, L: l} }

func aRecord(l ...api.Field) api.Value { return api.Value{Kind: api.Record, F: l} }

func field(name string, v api.Value) api.Field { return api.Field{Name: name, Value: v} }

// tells: is this the value of the text?
func tells(t *testing.T, s string, want api.Value) {
	t.Helper()
	if v, errno := parse.Value(s); errno != api.OK || !value.Same(v, want) {
		t.Errorf("%.200q: %.200q, error %d, want %.200q", s, value.Text(v), errno, value.Text(want))
	}
}

// tellsNone: is the text that of no value?
func tellsNone(t *testing.T, s string) {
	t.Helper()
	if v, errno := parse.Value(s); errno != api.ErrSyntax || !value.Same(v, api.Value{}) {
		t.Errorf("%.200q: %.200q, error %d, want ErrSyntax", s, value.Text(v), errno)
	}
}

// someValues are of each kind but Elem and Deed.
func someValues() []api.Value {
	l := []api.Value{{}, {Kind: api.Bool}, {Kind: api.Bool, N: 1}}
	for _, n := range []int64{0, 1, -1, 9, 10, 1000, -100, math.MaxInt64, math.MinInt64} {
		l = append(l, anInt(n))
	}
	for _, s := range []string{"", "a", "a b", `"`, `\`, "\n", `\n`, `\"`, `a\`, "] }", "[1]", "none", ";", "\t\r\x00\x7f\x80\xff", "é→😀", "\xe2", long(api.MaxText), strings.Repeat(`"`, api.MaxText), strings.Repeat("\n", api.MaxText)} {
		l = append(l, aText(s))
		if s != "" {
			l = append(l, aRecord(field(s, aText(s))))
		}
	}
	l = append(l, aList(), aRecord(), aList(l...))
	for _, v := range l {
		l = append(l, aList(v), aList(v, v), aList(anInt(5), v, aText("x")), aRecord(field("a", v)), aRecord(field(" ", v), field("a", aList(v)), field("b", v)))
	}
	return l
}

// P4.2, P4.3: each value in and out of its text.
func TestValues(t *testing.T) {
	for _, v := range someValues() {
		if !value.Check(v) {
			t.Fatalf("%+v may not be", v)
		}
		tells(t, value.Text(v), v)
	}
	tells(t, "none", api.Value{})
	tells(t, "yes", api.Value{Kind: api.Bool, N: 1})
	tells(t, "no", api.Value{Kind: api.Bool})
	tells(t, "-5", anInt(-5))
	tells(t, "-9223372036854775808", anInt(math.MinInt64))
	tells(t, `"a\"\\\nb"`, aText("a\"\\\nb"))
	tells(t, `[none -5 yes "a\"b"]`, aList(api.Value{}, anInt(-5), api.Value{Kind: api.Bool, N: 1}, aText(`a"b`)))
	tells(t, `{"a" {} "b" [[] {}]}`, aRecord(field("a", aRecord()), field("b", aList(aList(), aRecord()))))
}

// P4.2: texts that are nearly those of values.
func TestNearlyValues(t *testing.T) {
	for _, s := range []string{
		"", " ", "\n", ";", "x", "Yes", "nil", "true", "None", "-", "--", "(", ")", "()", "(a)", "yes no", "1 2", "5a", "a5", "nones", "non", "ye", "n",
		" 5", "5 ", "5\n", "5;", "5 ; x", "+5", "05", "00", "-0", "-05", "1.5", "1e3", "0x1", "9223372036854775808", "-9223372036854775809", "99999999999999999999", "5\t",
		`"`, `"a`, `a"`, `"a" `, ` "a"`, `"a""b"`, `"\t"`, `"\N"`, `"\`, `"\"`, `"a\ b"`, `"\0"`, "\"a\nb\"", "\"a\\\nb\"", `'a'`, `"a";`, `"a"x`, `"a"5`, `x"a"`,
		"[", "]", "[]]", "[[]", "[ ]", "[1 ]", "[ 1]", "[1  2]", "[1\t2]", "[1\n2]", "[1,2]", "[1;\n2]", "[]]", "[] ", " []", "[][]", "[1", "[1 ", "[1]1", `["a""b"]`, `[1"a"]`, `["a"1]`, "[[][]]", "[[]1]", "[1[]]", "[yes]no", "[}", "[1}", "[x]", "[-]",
		"{", "}", "{}}", "{ }", "{1}", `{"a"}`, `{"a" }`, `{"a" 1 }`, `{ "a" 1}`, `{"a"  1}`, `{"a"1}`, `{a 1}`, `{none 1}`, `{"a" 1,"b" 2}`, `{"a" 1"b" 2}`, `{"a" 1  "b" 2}`, `{"a" 1 "b"}`, `{"a" "b" 1}`, `{"a" 1]`, `{1 1}`, `{[] 1}`, `{"" 1}`, `{"a": 1}`, `{"a"` + "\n1}",
		`{"b" 1 "a" 2}`, `{"a" 1 "a" 1}`, `{"a" 1 "a" 2}`, `{"a" 1 "b" 2 "a" 3}`, `{"a" 1 "c" 2 "b" 3}`, `{"ab" 1 "a" 2}`, `{"a" 1 "Z" 2}`, `{"é" 1 "z" 2}`,
		`<frag "" {} []>`, `<host "div" {} []>`, `<deed 7 "App#0" {}>`, `[<frag "" {} []>]`, `{"a" <deed 7 "App#0" {"x" 1}>}`, `<host "div" key "k" {"id" 5} ["hi"]>`, "<", ">", "<>",
		"\x00", "\xff", "é", "[\xff]", "\ufeff5",
	} {
		tellsNone(t, s)
		tellsNone(t, "["+s+" ]")
		tellsNone(t, `{"a" `+s+" }")
		if s != "" && s != "1 2" && s != "yes no" && !strings.Contains(s, "\"a\"") {
			tellsNone(t, "["+s+"]")
		}
	}
	for _, v := range someValues() {
		s := value.Text(v)
		for _, off := range []string{" ", "\n", "]", "}", `"`, ";", "\x00", "x"} {
			tellsNone(t, s+off)
			tellsNone(t, off+s)
		}
		if v.Kind != api.Int && s != "none" {
			tellsNone(t, s[:len(s)-1])
		}
		if v.Kind != api.Int {
			tellsNone(t, s[1:])
		}
	}
}

// P4.2: at the limits of what may be, and right beyond them.
func TestValueLimits(t *testing.T) {
	for _, c := range []struct{ ahead, behind string }{{"[", "]"}, {`{"a" `, "}"}, {"[1 ", " 2]"}} {
		for _, inner := range []string{"none", "[]", "{}", `"x"`} {
			s := strings.Repeat(c.ahead, api.MaxDeep-1) + inner + strings.Repeat(c.behind, api.MaxDeep-1)
			v, errno := parse.Value(s)
			if errno != api.OK || value.Text(v) != s || value.Deep(v) != api.MaxDeep {
				t.Errorf("%.60s: error %d", s, errno)
			}
			tellsNone(t, c.ahead+s+c.behind)
		}
		tellsNone(t, strings.Repeat(c.ahead, 1<<16)+"1"+strings.Repeat(c.behind, 1<<16))
		tellsNone(t, strings.Repeat(c.ahead, 1<<20))
	}
	for _, one := range []string{"none", "1", `"a"`, "yes"} {
		s := "[" + one + strings.Repeat(" "+one, api.MaxNodes-2) + "]"
		v, errno := parse.Value(s)
		if errno != api.OK || value.Text(v) != s || value.Size(v) != api.MaxNodes {
			t.Errorf("%.60s: error %d", s, errno)
		}
		tellsNone(t, "["+one+strings.Repeat(" "+one, api.MaxNodes-1)+"]")
		tellsNone(t, "["+s+"]")
	}
	for _, unit := range []string{"x", `\"`, `\\`, `\n`, "\xff"} {
		s := `"` + strings.Repeat(unit, api.MaxText) + `"`
		v, errno := parse.Value(s)
		if errno != api.OK || len(v.S) != api.MaxText || value.Text(v) != s {
			t.Errorf("%.60s: error %d", s, errno)
		}
		more := `"` + strings.Repeat(unit, api.MaxText+1) + `"`
		tellsNone(t, more)
		tells(t, "{"+s+" 1}", aRecord(field(v.S, anInt(1))))
		tellsNone(t, "{"+more+" 1}")
	}
}

// P4.2: a value's text may be far longer than a program's.
func TestLongTexts(t *testing.T) {
	l := make([]api.Value, api.MaxNodes-1)
	fields := make([]api.Field, len(l))
	for i := range l {
		l[i] = aText(strings.Repeat("\n", api.MaxText))
		fields[i] = field(strconv.Itoa(10000+i), aText(long(api.MaxText)))
	}
	for _, v := range []api.Value{aList(l...), aRecord(fields...)} {
		s := value.Text(v)
		if len(s) < 100*api.MaxSource {
			t.Fatal(len(s))
		}
		tells(t, s, v)
		tellsNone(t, s+" ")
		tellsNone(t, s[:len(s)-1])
	}
	for _, s := range []string{"x", " ", `"`, "1", "[", "{", "-", `"" `, "[]", `\`, "5]"} {
		tellsNone(t, strings.Repeat(s, 1<<20))
		tellsNone(t, `"`+strings.Repeat(s, 1<<20))
		tellsNone(t, "["+strings.Repeat(s, 1<<20))
	}
}

// textsUpTo are the texts of all values of at most n of these pieces: "a" "b" 0 none [ ] { } and blanks.
func textsUpTo(n int) map[string]bool {
	texts, rows, all := map[int][]string{}, map[int][]string{}, map[string]bool{}
	texts[1] = []string{`"a"`, `"b"`, "0", "none"}
	texts[2] = []string{"[]", "{}"}
	for n := range n + 1 {
		for _, row := range rows[n-2] {
			texts[n] = append(texts[n], "["+row+"]")
		}
		for _, v := range texts[n-4] {
			texts[n] = append(texts[n], `{"a" `+v+"}", `{"b" `+v+"}")
		}
		for i := range n {
			for _, v := range texts[i] {
				for _, w := range texts[n-7-i] {
					texts[n] = append(texts[n], `{"a" `+v+` "b" `+w+"}")
				}
				for _, row := range rows[n-1-i] {
					rows[n] = append(rows[n], v+" "+row)
				}
			}
		}
		rows[n] = append(rows[n], texts[n]...)
		for _, s := range texts[n] {
			all[s] = true
		}
	}
	return all
}

// P4.2: all short texts of some pieces: values are just those that chapter 1 tells.
func TestShortValues(t *testing.T) {
	want := textsUpTo(11)
	found := 0
	var try func(s string, n int)
	try = func(s string, n int) {
		v, errno := parse.Value(s)
		switch {
		case want[s]:
			found++
			if errno != api.OK || value.Text(v) != s {
				t.Errorf("%q: error %d", s, errno)
			}
		case errno != api.ErrSyntax || !value.Same(v, api.Value{}):
			t.Errorf("%q: error %d, %q", s, errno, value.Text(v))
		}
		if n == 0 {
			return
		}
		for _, piece := range []string{"[", "]", "{", "}", `"a"`, `"b"`, " ", "0", "none"} {
			try(s+piece, n-1)
		}
	}
	try("", 5)
	for _, ahead := range []string{"[0 ", `{"a" `, `{"a" 0 "b" `, `[[] `, `{"b" `} {
		try(ahead, 4)
	}
	if found < 100 {
		t.Errorf("%d values", found)
	}
	for s := range want {
		if v, errno := parse.Value(s); errno != api.OK || value.Text(v) != s {
			t.Errorf("%q: error %d", s, errno)
		}
	}
}
