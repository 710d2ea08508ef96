package show_test

import (
	"math"
	"testing"

	"tapestry/api"
	"tapestry/show"
)

// isBare: is that what Bare tells of the nodes, and of what it tells?
func isBare(t *testing.T, l, want []api.Node) {
	t.Helper()
	got := show.Bare(l)
	if !sameNodes(got, want) {
		t.Errorf("%s: %s, want %s", short(l), short(got), short(want))
	}
	if again := show.Bare(got); !sameNodes(again, want) {
		t.Errorf("%s: done again %s, want %s", short(l), short(again), short(want))
	}
}

// P11.3: numbers, in all depths.
func TestBareNumbers(t *testing.T) {
	isBare(t, nil, nil)
	isBare(t, []api.Node{}, nil)
	isBare(t, nodes(leaf("")), nodes(leaf("")))
	l := nodes(host("p", leaf("a"), with(host("q", leaf("b"), host("r")), field("id", number(1)))), leaf("c"))
	isBare(t, l, l)
	for _, id := range []int{1, -1, 7, math.MaxInt, math.MinInt} {
		isBare(t, nodes(numbered(l[0], id), numbered(l[1], id)), l)
		isBare(t, nodes(numbered(leaf("x"), id)), nodes(leaf("x")))
		isBare(t, nodes(nest(numbered(host("p"), id), 5)), nodes(nest(host("p"), 5)))
	}
}

// P11.3: attributes of the Kind Deed, alone, among others, first and last, in all depths.
func TestBareDeeds(t *testing.T) {
	f, g := deed(), deed(field("x", number(1)), field("y", deed()))
	a, b, c := field("a", number(1)), field("b", truth(0)), field("c", words("x"))
	for _, s := range []struct{ has, want []api.Field }{
		{nil, nil},
		{fields(field("f", f)), nil},
		{fields(field("f", f), field("g", g), field("h", f)), nil},
		{fields(field("A", f), a, b, c), fields(a, b, c)},
		{fields(a, b, c, field("f", g)), fields(a, b, c)},
		{fields(a, field("aa", f), b, field("bb", g), c), fields(a, b, c)},
		{fields(field("A", f), a, field("z", g)), fields(a)},
		{fields(field("A", f), field("B", f), a, field("aa", f), field("ab", f), b, field("y", f), field("z", f)), fields(a, b)},
		{fields(field("on:click", f), field("on:load", words("x"))), fields(field("on:load", words("x")))},
		{fields(a, b, c), fields(a, b, c)},
	} {
		bare := ways(with(host("p", leaf("x")), s.want...))
		for why, l := range ways(numbered(with(host("p", leaf("x")), s.has...), 7)) {
			isBare(t, l, bare[why])
		}
		isBare(t, nodes(with(host("q", with(host("p", with(host("r"), s.has...)), s.has...)), s.has...)),
			nodes(with(host("q", with(host("p", with(host("r"), s.want...)), s.want...)), s.want...)))
	}
}

// P11.3: a deed whose other fields may not be is one of the Kind Deed, too.
func TestBareDeedsThatMayNotBe(t *testing.T) {
	for _, v := range []api.Value{{Kind: api.Deed}, {Kind: api.Deed, S: long(api.MaxText + 1)}, {Kind: api.Deed, L: make([]api.Value, 1)}, {Kind: api.Deed, Elem: api.ElHost, HasKey: true, Key: "k"}, {Kind: api.Deed, F: fields(field("b", none()), field("a", none()))}} {
		for why, l := range ways(with(host("p"), field("", v), field("a", number(1)), field("a", v))) {
			isBare(t, l, ways(with(host("p"), field("a", number(1))))[why])
		}
	}
}

// P11.3: all else is as it was, whether or not the nodes may be.
func TestBareLeavesAllElse(t *testing.T) {
	var attrs []api.Field
	for _, v := range noAttrs() {
		if v.Kind != api.Deed {
			attrs = append(attrs, field("a", v), field("", v), field(long(api.MaxText+1), v))
		}
	}
	// A deed that lies within a value is no attribute.
	inner := list(deed(), record(field("a", deed())), element(field("on:x", deed()), field("x", list(deed()))))
	attrs = append(attrs, field("b", inner), field("a", inner), field("c", record(field("a", inner))))
	all := api.Node{Tag: "p", Text: "x", Attrs: attrs, Kids: nodes(api.Node{Text: "y", Attrs: attrs, Kids: nodes(leaf("z"))}, api.Node{}, api.Node{Tag: long(api.MaxText + 1), Text: long(api.MaxText + 2)})}
	for _, l := range ways(all) {
		isBare(t, l, l)
	}
	everyNode(func(n api.Node) {
		for why, l := range ways(n) {
			n := n
			n.ID = 0
			isBare(t, l, ways(n)[why])
		}
	})
}
