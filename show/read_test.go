package show_test

import (
	"math"
	"strconv"
	"testing"

	"tapestry/api"
)

// someTexts are of nodes, and have each thing that texts of nodes have.
func someTexts() []string {
	return []string{
		"", `""`, `"a"`, `"a b" "a"`, `("p" {} [])`, `"" ("p" {} []) ""`, `("p" {} []) ("p" {} [])`,
		`("div" {"id" 5} ["hi"]) "x"`,
		`("p" {"a" -10 "b" yes "c" no "d" "x\"\\\ny"} [])`,
		`("p" {} ["a" ("q" {"b" 0} ["" ("r" {} [])]) "n\n\\n"])`,
		"(\"\xff\" {\"\x00\" \"\xc3\"} [\"(\" \"\\\"\"])",
	}
}

// P11.2: each beginning and each end of a text.
func TestBeginnings(t *testing.T) {
	for _, s := range someTexts() {
		if !held(t, s) {
			t.Errorf("%q is one", s)
		}
		for i := range s {
			held(t, s[:i])
			held(t, s[i:])
			for j := range i {
				held(t, s[:j]+s[i:])
			}
		}
	}
	for _, c := range []string{`("div" {"id" 5} ["hi"])`, `("p" {"a" "x"} [("q" {} [])])`} {
		for i := 1; i < len(c); i++ {
			readsNone(t, c[:i])
			readsNone(t, c[i:])
			readsNone(t, c+c[:i])
			readsNone(t, c+" "+c[:i])
		}
	}
}

// P11.2: texts with one byte left out, doubled, put in, or another one in its place.
func TestOneByteWrong(t *testing.T) {
	most := 0
	for _, s := range someTexts() {
		for i := range len(s) + 1 {
			for b := range 256 {
				if held(t, s[:i]+string([]byte{byte(b)})+s[i:]) {
					most++
				}
			}
			if i == len(s) {
				continue
			}
			held(t, s[:i]+s[i+1:])
			held(t, s[:i]+s[i:i+1]+s[i:])
			for b := range 256 {
				held(t, s[:i]+string([]byte{byte(b)})+s[i+1:])
			}
			for j := range i {
				// Two bytes that change places.
				held(t, s[:j]+s[i:i+1]+s[j+1:i]+s[j:j+1]+s[i+1:])
			}
		}
	}
	if most < 1000 {
		t.Errorf("%d texts with a byte more are ones", most)
	}
}

// P11.2: blanks too many and too few, and others than the byte 32.
func TestBlanks(t *testing.T) {
	for _, s := range []string{
		" ", "  ", "\n", ` "a"`, `"a" `, "\"a\"\n", `"a"  "b"`, `"a""b"`, "\"a\"\t\"b\"", "\"a\"\n\"b\"", "\"a\"\u00a0\"b\"", `"a","b"`, `"a" "b" `, ` "a" "b"`,
		`( "p" {} [])`, `("p"{} [])`, `("p"  {} [])`, `("p" { } [])`, `("p" {}[])`, `("p" {}  [])`, `("p" {} [ ])`, `("p" {} [] )`, `("p" {} []) `, ` ("p" {} [])`, "(\"p\"\n{} [])", "(\"p\" {}\t[])",
		`("p" {} ["a" ])`, `("p" {} [ "a"])`, `("p" {} ["a"  "b"])`, `("p" {} ["a""b"])`, "(\"p\" {} [\"a\"\n\"b\"])",
		`("p" { "a" 1} [])`, `("p" {"a" 1 } [])`, `("p" {"a"  1} [])`, `("p" {"a"1} [])`, `("p" {"a" 1  "b" 2} [])`, `("p" {"a" 1"b" 2} [])`, `("p" {"a" yes"b" 2} [])`, `("p" {"a" "x""b" 2} [])`,
		`("p" {} [])("p" {} [])`, `"a"("p" {} [])`, `("p" {} [])"a"`, `("p" {} [])  "a"`, `("p" {} [("q" {} [])("q" {} [])])`, `("p" {} [("q" {} []) ])`, `("p" {} ["a"("q" {} [])])`,
	} {
		readsNone(t, s)
		if s != " " && s != `"a" "b" ` && s != ` "a" "b"` {
			readsNone(t, `("o" {} [`+s+`])`)
			readsNone(t, `"x" `+s+` "y"`)
		}
	}
}

// P11.2: hosts that are none.
func TestHostsThatAreNone(t *testing.T) {
	for _, s := range []string{
		"(", ")", "()", "( )", "[]", "{}", "[", "]", "{", "}", "])", "([", `("p")`, `("p" {})`, `("p" [])`, `("p" [] {})`, `("p" {} [)`, `("p" {} ])`, `("p" {} [])]`, `("p" {} []))`, `(("p" {} [])`, `("p" {} []`, `"a"]`, `"a")`, `]"a"`,
		`["p" {} []]`, `{"p" {} []}`, `(p {} [])`, `("p" "q" {} [])`, `("p" {} {})`, `("p" [] [])`, `("p" {} ())`, `("p" {} [] [])`, `("p" {} {} [])`, `("p" {} "a")`, `("p" 5 [])`, `("p" none [])`, `("" {} [])`, `("" {} ["a"])`, `("" {"a" 1} [])`, `(5 {} [])`, `(yes {} [])`, `(none {} [])`,
		`<host "p" {} []>`, `<"p" {} []>`, `("p" key "k" {} [])`, `("p" {} [<host "q" {} []>])`, `("p" {} [] "k")`, `(7 "p" {} [])`, `7 "a"`, "5", "-5", "0", "yes", "no", "none", "x", ";", "\x00", "\xff", "\ufeff", "\ufeff\"a\"",
		`("p" {} [5])`, `("p" {} [yes])`, `("p" {} [none])`, `("p" {} [[]])`, `("p" {} [["a"]])`, `("p" {} [{}])`, `("p" {} [()])`, `("p" {} ["a" 5])`,
	} {
		readsNone(t, s)
		readsNone(t, `("o" {} [`+s+`])`)
		readsNone(t, `"x" `+s)
		readsNone(t, s+` "x"`)
	}
}

// P11.2: attributes that do not rise, or are none.
func TestAttrsThatAreNone(t *testing.T) {
	for _, s := range []string{
		`1`, `"a"`, `"a" `, `a 1`, `"a" 1 "b"`, `"a" 1 2`, `"a" "b" 1`, `1 "a"`, `"" 1`, `"" 1 "a" 2`, `"a" 1 "" 2`, `yes 1`, `none 1`, `"a": 1`, `"a"=1`, `"a" 1,"b" 2`, `"a" 1, "b" 2`,
		`"b" 1 "a" 2`, `"a" 1 "a" 1`, `"a" 1 "a" 2`, `"a" 1 "b" 2 "a" 3`, `"a" 1 "c" 2 "b" 3`, `"ab" 1 "a" 2`, `"a" 1 "Z" 2`, `"é" 1 "z" 2`, `"\"" 1 "\n" 2`, `"A" 1 "\"" 2`, `"A" 1 "\n" 2`, `"a" 1 "c" 1 "b" 1 "d" 1`, `"\\" 1 "[" 2`,
		`"a" none`, `"a" []`, `"a" [1]`, `"a" {}`, `"a" {"b" 1}`, `"a" <deed 7 "App#0" {}>`, `"a" <frag "" {} []>`, `"a" ()`, `"a" ("p" {} [])`, `"a" x`, `"a" yesno`, `"a" yes no`, `"a" Yes`, `"a" YES`, `"a" true`, `"a" y`, `"a" ye`, `"a" n`, `"a" nones`, `"a" nothing`, `"a" yess`, `"a" noo`,
	} {
		readsNone(t, `("p" {`+s+`} [])`)
		readsNone(t, `("p" {`+s+`} ["x"]) "y"`)
		readsNone(t, `("q" {} [("p" {`+s+`} [])])`)
		readsNone(t, `("p" {"A" 1 `+s+`} [])`)
		readsNone(t, `("p" {`+s+` "zz" 1} [])`)
	}
}

// P11.2: numbers of attributes.
func TestNumbersOfAttributes(t *testing.T) {
	for _, n := range []int64{0, 1, -1, 9, 10, -10, 100, 1234567890, -987654321, math.MaxInt32, math.MinInt32, math.MaxInt64, math.MinInt64, math.MaxInt64 - 1, math.MinInt64 + 1} {
		told := strconv.FormatInt(n, 10)
		p := with(host("p"), field("a", number(n)), field("b", number(n)))
		tells(t, nodes(host("q", p)), `("q" {} [("p" {"a" `+told+` "b" `+told+`} [])])`)
	}
	for _, s := range []string{
		"", "-", "--", "--5", "+5", "+0", "-0", "00", "01", "-01", "007", "-00", "5-", "5-5", "5a", "a5", "1.0", "1.5", "1e3", "0x1", "0b1", "0o7", "1_000", "1,000", "１", "5\n", "\n5", "5\x00", "-5-", "- 5",
		"9223372036854775808", "-9223372036854775809", "18446744073709551616", "99999999999999999999", "-99999999999999999999", "00000000000000000000000000000001", long(50), "inf", "nan",
	} {
		readsNone(t, `("p" {"a" `+s+`} [])`)
		readsNone(t, `("p" {"a" `+s+` "b" 1} [])`)
		readsNone(t, `("p" {"a" 1 "b" `+s+`} [])`)
		readsNone(t, `("p" {"a" `+s)
	}
}

// textsOf are the texts of all nodes of at most n of these pieces: "a" "" ( { } [ ] blanks, and 0 and yes as values.
func textsOf(n int) map[string]bool {
	some, rows, all := map[int][]string{}, map[int][]string{}, map[string]bool{"": true}
	some[1] = []string{`"a"`, `""`}
	attrs := map[int][]string{0: {""}, 3: {`"a" 0`, `"a" yes`, `"a" "a"`, `"a" ""`}}
	for n := range n + 1 {
		for of, l := range attrs {
			for _, a := range l {
				const brackets = 9 // ( a tag, two blanks, { } [ ] )
				kids := rows[n-brackets-of]
				if n == brackets+of {
					kids = []string{""}
				}
				for _, row := range kids {
					some[n] = append(some[n], `("a" {`+a+`} [`+row+`])`)
				}
			}
		}
		for i := range n {
			for _, one := range some[i] {
				for _, row := range rows[n-1-i] {
					rows[n] = append(rows[n], one+" "+row)
				}
			}
		}
		rows[n] = append(rows[n], some[n]...)
		for _, s := range rows[n] {
			all[s] = true
		}
	}
	return all
}

// P11.2: all short texts of some pieces, and those that begin as nodes do: just those of nodes are read.
func TestShortTexts(t *testing.T) {
	want := textsOf(16)
	found := 0
	var try func(s string, n int)
	try = func(s string, n int) {
		if ok := held(t, s); ok != want[s] {
			t.Errorf("%q: %v", s, ok)
		} else if ok {
			found++
		}
		if n == 0 {
			return
		}
		for _, piece := range []string{"(", ")", "{", "}", "[", "]", `"a"`, `""`, " ", "0", "yes"} {
			try(s+piece, n-1)
		}
	}
	try("", 4)
	for _, ahead := range []string{`("a" `, `("a" {`, `("a" {"a" `, `("a" {} [`, `("a" {"a" 0} ["a"`, `("a" {} []`, `("a" {} [])`, `"" ("a" {} [])`} {
		try(ahead, 4)
	}
	if found < 30 {
		t.Errorf("%d texts of nodes", found)
	}
	for s := range want {
		if !held(t, s) {
			t.Errorf("%q is one", s)
		}
	}
}

// P11.2: what is read has no number, and no field but those of its row.
func TestReadNodes(t *testing.T) {
	reads(t, `"a" ("p" {"a" 1 "b" no "c" ""} ["" ("q" {} [])])`, []api.Node{
		{Text: "a"},
		{Tag: "p", Attrs: []api.Field{{Name: "a", Value: api.Value{Kind: api.Int, N: 1}}, {Name: "b", Value: api.Value{Kind: api.Bool}}, {Name: "c", Value: api.Value{Kind: api.Text}}},
			Kids: []api.Node{{}, {Tag: "q"}}},
	})
}
