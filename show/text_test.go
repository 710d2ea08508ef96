package show_test

import (
	"math"
	"strings"
	"testing"

	"tapestry/api"
	"tapestry/show"
)

// P11.1: texts and hosts, alone, one behind the other, within one another.
func TestText(t *testing.T) {
	tells(t, []api.Node{}, "")
	tells(t, nodes(leaf("")), `""`)
	tells(t, nodes(leaf("hi")), `"hi"`)
	tells(t, nodes(leaf(""), leaf("")), `"" ""`)
	tells(t, nodes(leaf("a"), leaf("b"), leaf("a")), `"a" "b" "a"`)
	tells(t, nodes(host("p"), host("q")), `("p" {} []) ("q" {} [])`)
	tells(t, nodes(leaf("a"), host("p"), leaf("b")), `"a" ("p" {} []) "b"`)
	tells(t, nodes(host("p", leaf(""))), `("p" {} [""])`)
	tells(t, nodes(host("p", leaf("a"), leaf("b"))), `("p" {} ["a" "b"])`)
	tells(t, nodes(host("p", host("p", host("p")))), `("p" {} [("p" {} [("p" {} [])])])`)
	tells(t, nodes(host("p", host("q", leaf("a")), leaf("b"), host("r", leaf("c"), host("s"))), leaf("d")),
		`("p" {} [("q" {} ["a"]) "b" ("r" {} ["c" ("s" {} [])])]) "d"`)
	tells(t, nodes(nest(leaf("x"), 2)), `("q" {} ["a" ("q" {} ["a" "x" ("r" {} [])]) ("r" {} [])])`)
	tells(t, nodes(api.Node{Tag: "p", Attrs: []api.Field{}, Kids: []api.Node{}}, api.Node{Attrs: []api.Field{}, Kids: []api.Node{}}), `("p" {} []) ""`)
}

// P11.1: attributes of the three kinds, by rising names.
func TestAttrs(t *testing.T) {
	p := host("p", leaf("x"))
	tells(t, nodes(with(p, field("a", number(0)))), `("p" {"a" 0} ["x"])`)
	tells(t, nodes(with(p, field("a", number(math.MaxInt64)), field("b", number(math.MinInt64)), field("c", number(-1)))),
		`("p" {"a" 9223372036854775807 "b" -9223372036854775808 "c" -1} ["x"])`)
	tells(t, nodes(with(p, field("a", truth(1)), field("b", truth(0)))), `("p" {"a" yes "b" no} ["x"])`)
	tells(t, nodes(with(p, field("a", words("")), field("b", words("b")))), `("p" {"a" "" "b" "b"} ["x"])`)
	tells(t, nodes(with(host("q", with(p, field("hidden", truth(1)))), field("id", number(5)), field("style", words("x: y")))),
		`("q" {"id" 5 "style" "x: y"} [("p" {"hidden" yes} ["x"])])`)
	// Which attributes there are is no matter of their names.
	tells(t, nodes(with(p, field(" ", number(1)), field("at:x", number(2)), field("on:click", number(3)))), `("p" {" " 1 "at:x" 2 "on:click" 3} ["x"])`)
	// A value whose lists are empty, not nil, is the same.
	v := number(5)
	v.L, v.F = []api.Value{}, []api.Field{}
	tells(t, nodes(with(p, field("a", v))), `("p" {"a" 5} ["x"])`)
}

// P11.1: names of attributes that rise as their bytes do, and others.
func TestNamesOfAttributes(t *testing.T) {
	for _, c := range []struct {
		names []string
		ok    bool
	}{
		{[]string{"a", "b", "c"}, true}, {[]string{"b", "a"}, false}, {[]string{"a", "a"}, false},
		{[]string{"a", "c", "b"}, false}, {[]string{"a", "b", "b"}, false}, {[]string{"a", "b", "a"}, false}, {[]string{"c", "a", "b"}, false},
		{[]string{"a", "ab"}, true}, {[]string{"ab", "a"}, false}, {[]string{"b", "ab"}, false}, {[]string{"ab", "b"}, true},
		{[]string{"B", "a"}, true}, {[]string{"a", "B"}, false}, {[]string{"10", "9"}, true}, {[]string{"9", "10"}, false},
		{[]string{"z", "é"}, true}, {[]string{"é", "z"}, false}, {[]string{"é", "\xff"}, true}, {[]string{"\xff", "é"}, false},
		{[]string{"\x00", "\n", " ", "\"", "[", "\\", "]", "\x7f", "\x80", "\xff"}, true}, {[]string{"\x80", "\x7f"}, false},
		// By their bytes, not by how quotes tell these: of `\n` and `"`, `\"` and `A`, the second one is not the greater one.
		{[]string{"\n", "\""}, true}, {[]string{"\"", "\n"}, false}, {[]string{"\"", "A"}, true}, {[]string{"A", "\""}, false}, {[]string{"\n", "A"}, true}, {[]string{"A", "\n"}, false},
		{[]string{"\uffff", "\U00010000"}, true}, {[]string{"a", "a\x00"}, true}, {[]string{"a\x00", "a"}, false},
		{[]string{""}, false}, {[]string{"", "a"}, false}, {[]string{"a", ""}, false},
		{[]string{"a", "b", "c", "d", "e", "f", "g"}, true}, {[]string{"a", "b", "c", "d", "e", "g", "f"}, false},
		{[]string{long(api.MaxText)}, true}, {[]string{long(api.MaxText + 1)}, false}, {[]string{"a", long(api.MaxText), "y"}, true}, {[]string{"a", long(api.MaxText + 1), "y"}, false},
	} {
		var l []api.Field
		var told []string
		for _, name := range c.names {
			l = append(l, field(name, number(1)))
			told = append(told, quotedBy(name)+" 1")
		}
		s := `("p" {` + strings.Join(told, " ") + `} [])`
		if c.ok {
			tells(t, nodes(with(host("p"), l...)), s)
			tells(t, nodes(host("q", with(host("p"), l...))), `("q" {} [`+s+`])`)
			continue
		}
		for why, l := range ways(with(host("p"), l...)) {
			tellsNone(t, short(c.names)+" "+why, l)
		}
		readsNone(t, s)
		readsNone(t, `("q" {} [`+s+`])`)
	}
}

// noAttrs are values that no attribute of a node may have.
func noAttrs() []api.Value {
	l := []api.Value{none(), list(), list(number(1)), record(), record(field("a", number(1))), element(), deed(), deed(field("x", number(1))),
		truth(2), truth(-1), truth(1 << 32), words(long(api.MaxText + 1)), {Kind: api.Text, N: 1}, {Kind: api.Int, S: "x"}, {Kind: api.Bool, S: "x"}, {S: "x"}}
	for k := 8; k < 256; k++ {
		l = append(l, api.Value{Kind: api.Kind(k)}, api.Value{Kind: api.Kind(k), N: 1})
	}
	for _, v := range []api.Value{number(1), truth(1), words("x")} {
		for _, set := range []func(v *api.Value){
			func(v *api.Value) { v.L = make([]api.Value, 1) }, func(v *api.Value) { v.F = make([]api.Field, 1) }, func(v *api.Value) { v.F = fields(field("a", number(1))) },
			func(v *api.Value) { v.Elem = api.ElHost }, func(v *api.Value) { v.Elem = api.ElText }, func(v *api.Value) { v.Key = "k" }, func(v *api.Value) { v.HasKey = true },
		} {
			v := v
			set(&v)
			l = append(l, v)
		}
	}
	return l
}

// P11.1: attributes of every other kind, and of values that may not be, first, last and in the midst.
func TestAttrsThatMayNotBe(t *testing.T) {
	for _, v := range noAttrs() {
		for _, l := range [][]api.Field{{field("b", v)}, {field("a", number(1)), field("b", v)}, {field("b", v), field("c", words("x"))}, {field("a", truth(1)), field("b", v), field("c", truth(1))}} {
			for why, l := range ways(with(host("p", leaf("z")), l...)) {
				tellsNone(t, short(v)+" "+why, l)
			}
		}
	}
}

// everyNode is each one of these fields.
func everyNode(yield func(n api.Node)) {
	for _, id := range []int{0, 7} {
		for _, tag := range []string{"", "p", " ", "\x00", long(api.MaxText), long(api.MaxText + 1)} {
			for _, text := range []string{"", "x", "\x00", long(api.MaxText), long(api.MaxText + 1)} {
				for _, attrs := range [][]api.Field{nil, {}, {field("a", number(1))}, {field("a", none())}, {{}}} {
					for _, kids := range [][]api.Node{nil, {}, {leaf("")}, {host("q")}, {{Tag: "q", Text: "x"}}} {
						yield(api.Node{ID: id, Tag: tag, Text: text, Attrs: attrs, Kids: kids})
					}
				}
			}
		}
	}
}

// P11.1: nodes of many fields: hosts with a Text, texts with Attrs, with Kids, at the top and deep; tags that are no names, texts that are too long.
func TestNodesThatMayBe(t *testing.T) {
	some, other := 0, 0
	everyNode(func(n api.Node) {
		_, ok := readingOf(nodes(n))
		for why, l := range ways(n) {
			want, may := readingOf(l)
			if got := show.Text(l); got != want || may != ok {
				t.Errorf("%s %s: %.200q, want %.200q", short(n), why, got, want)
			}
		}
		if ok {
			some++
		} else {
			other++
		}
	})
	if some < 50 || other < 500 {
		t.Errorf("%d may be, %d may not", some, other)
	}
	for why, n := range map[string]api.Node{
		"a host with a text":           {Tag: "p", Text: "x"},
		"a text with an attribute":     {Text: "x", Attrs: fields(field("a", number(1)))},
		"a text with a kid":            {Text: "x", Kids: nodes(leaf("y"))},
		"an empty one with a kid":      {Kids: nodes(leaf(""))},
		"an empty one with attributes": {Attrs: fields(field("a", number(1)))},
	} {
		for way, l := range ways(n) {
			tellsNone(t, why+" "+way, l)
		}
	}
}

// P11.1: numbers are any, and make no difference.
func TestNumbers(t *testing.T) {
	l := nodes(host("p", leaf("a"), with(host("q", leaf("b")), field("id", number(1)))), leaf("c"))
	want := show.Text(l)
	if want == "" {
		t.Fatal("no text")
	}
	for _, id := range []int{0, 1, -1, 7, math.MaxInt, math.MinInt} {
		tells(t, nodes(numbered(l[0], id), numbered(l[1], id)), want)
		tells(t, nodes(numbered(l[0], -id), api.Node{ID: id, Text: "c"}), want)
	}
}
