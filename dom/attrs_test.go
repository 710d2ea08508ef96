package dom_test

import (
	"fmt"
	"math"
	"slices"
	"testing"

	"tapestry/api"
	"tapestry/dom"
)

// mayBeAttrs are values that attributes may have.
func mayBeAttrs() []api.Value {
	return []api.Value{number(0), number(-1), number(math.MaxInt64), number(math.MinInt64), truth(0), truth(1),
		words(""), words("a\x00\xff"), words(long(api.MaxText))}
}

// notAttrs are values that attributes may not have: those of other kinds, and those that may not be.
func notAttrs() []api.Value {
	l := slices.DeleteFunc(noTexts(), func(v api.Value) bool { return v.Kind == api.Int || v.Kind == api.Bool })
	l = append(l, truth(2), truth(-1), truth(256), words(long(api.MaxText+1)))
	for _, kind := range []api.Kind{api.Int, api.Bool, api.Text} {
		l = append(l, api.Value{Kind: kind, L: make([]api.Value, 1)}, api.Value{Kind: kind, F: make([]api.Field, 1)},
			api.Value{Kind: kind, Elem: api.ElHost}, api.Value{Kind: kind, Key: "k"}, api.Value{Kind: kind, HasKey: true})
	}
	return append(l, api.Value{Kind: api.Int, S: "x"}, api.Value{Kind: api.Bool, S: "x"}, api.Value{Kind: api.Text, N: 1})
}

// P10.2, OpAttr: its attribute of that name has that value, of whatever kind the one ahead was.
func TestAttr(t *testing.T) {
	d := made(t, create(1, "p"), at(1, "", 0), create(2, "q"))
	for _, v := range mayBeAttrs() {
		does(t, d, attr(1, "a", v), attr(2, "a", v))
		stand(t, d, "", with(host(1, "p"), field("a", v)))
		for _, w := range mayBeAttrs() {
			does(t, d, attr(1, "a", w))
			stand(t, d, "", with(host(1, "p"), field("a", w)))
		}
	}
	// Of one that stood nowhere they are told once it stands.
	does(t, d, into(2, 1, 0))
	last := words(long(api.MaxText))
	stand(t, d, "", with(host(1, "p", with(host(2, "q"), field("a", last))), field("a", last)))
}

// P10.2, OpAttr: ErrGone first, then ErrArg.
func TestAttrRefused(t *testing.T) {
	d := made(t, create(1, "p"), text(2, "x"), create(3, "p"), remove(3), attr(1, "a", number(7)), at(1, "", 0))
	for _, gone := range []int{3, 0, -1, 9, math.MinInt, math.MaxInt} {
		refuses(t, d, api.ErrGone, attr(gone, "a", number(1)), attr(gone, "", number(1)), attr(gone, "a", none()), attr(gone, "", truth(2)))
	}
	for _, v := range append(mayBeAttrs(), notAttrs()...) {
		refuses(t, d, api.ErrArg, attr(2, "a", v), attr(2, "", v), attr(1, "", v), attr(1, long(api.MaxText+1), v))
	}
	for _, v := range notAttrs() {
		refuses(t, d, api.ErrArg, attr(1, "a", v), attr(1, "b", v))
	}
	stand(t, d, "", with(host(1, "p"), field("a", number(7))))
	does(t, d, attr(1, long(api.MaxText), number(1)), attr(1, "\x00", number(2)))
	stand(t, d, "", with(host(1, "p"), field("\x00", number(2)), field("a", number(7)), field(long(api.MaxText), number(1))))
}

// orders are the names in each order that they can have.
func orders(l []string) [][]string {
	if len(l) == 0 {
		return [][]string{nil}
	}
	var all [][]string
	for i, name := range l {
		for _, order := range orders(slices.Concat(l[:i], l[i+1:])) {
			all = append(all, append([]string{name}, order...))
		}
	}
	return all
}

// P10.3: attributes by rising names, whatever the order in which they were set and dropped.
func TestNamesRise(t *testing.T) {
	names := []string{"\xff", "a", "B", "ab", "é"}
	rising := []string{"B", "a", "ab", "é", "\xff"}
	for _, order := range orders(names) {
		d := made(t, create(1, "p"), at(1, "", 0))
		for _, name := range order {
			does(t, d, attr(1, name, words(name)))
		}
		left := slices.Clone(rising)
		for _, name := range order[2:] {
			var want []api.Field
			for _, name := range left {
				want = append(want, field(name, words(name)))
			}
			stand(t, d, "", with(host(1, "p"), want...))
			does(t, d, drop(1, name))
			refuses(t, d, api.ErrGone, drop(1, name))
			left = slices.DeleteFunc(left, func(l string) bool { return l == name })
		}
	}
}

// P10.2, OpDrop: it has none of that name any more, and can have one again.
func TestDrop(t *testing.T) {
	d := made(t, create(1, "p"), at(1, "", 0), create(2, "q"), into(2, 1, 0))
	a, b := field("a", number(1)), field("b", words("x"))
	does(t, d, attr(1, "a", a.Value), attr(1, "b", b.Value), attr(2, "a", a.Value))
	does(t, d, drop(1, "a"))
	stand(t, d, "", with(host(1, "p", with(host(2, "q"), a)), b))
	does(t, d, attr(1, "a", a.Value), drop(1, "b"), drop(2, "a"))
	stand(t, d, "", with(host(1, "p", host(2, "q")), a))
	does(t, d, drop(1, "a"))
	stand(t, d, "", host(1, "p", host(2, "q")))
	refuses(t, d, api.ErrGone, drop(1, "a"), drop(1, "b"), drop(2, "a"))
}

// P10.2, OpDrop: ErrGone for no such node, ErrArg for no host, ErrGone for no such attribute; what is no name no attribute has.
func TestDropRefused(t *testing.T) {
	d := made(t, create(1, "p"), text(2, "x"), create(3, "p"), attr(3, "a", number(1)), remove(3), attr(1, "ab", number(7)), at(1, "", 0))
	names := []string{"a", "", "abc", "b", "A", long(api.MaxText), long(api.MaxText + 1)}
	for _, name := range names {
		for _, gone := range []int{3, 0, -1, 9, math.MinInt, math.MaxInt} {
			refuses(t, d, api.ErrGone, drop(gone, name))
		}
		refuses(t, d, api.ErrArg, drop(2, name))
		refuses(t, d, api.ErrGone, drop(1, name))
	}
	does(t, d, drop(1, "ab"))
}

// P10.2: a number that is free again has none of the attributes, the texts, the nodes that it had.
func TestMadeAgain(t *testing.T) {
	d := made(t, create(1, "p"), attr(1, "a", number(1)), at(1, "", 0), text(2, "x"), into(2, 1, 0), remove(1), create(1, "q"), create(2, "r"))
	are(t, d)
	does(t, d, at(1, "", 0))
	stand(t, d, "", host(1, "q"))
	refuses(t, d, api.ErrGone, drop(1, "a"))
	does(t, d, attr(2, "b", number(2)), into(2, 1, 0))
	stand(t, d, "", host(1, "q", with(host(2, "r"), field("b", number(2)))))
	does(t, d, remove(2), text(2, "y"), into(2, 1, 0))
	stand(t, d, "", host(1, "q", leaf(2, "y")))
}

// P10.3: many attributes, set in falling order, some of them dropped.
func TestManyAttributes(t *testing.T) {
	const n = 2000
	d := made(t, create(1, "p"), at(1, "", 0))
	name := func(i int) string { return fmt.Sprintf("a%05d", i) }
	for i := n - 1; i >= 0; i-- {
		does(t, d, attr(1, name(i), number(int64(i))))
	}
	var want []api.Field
	for i := range n {
		if i%3 == 0 {
			does(t, d, drop(1, name(i)))
		} else {
			want = append(want, field(name(i), number(int64(i))))
		}
	}
	stand(t, d, "", with(host(1, "p"), want...))
	again := dom.New()
	does(t, again, d.Log()...)
	if !all(again).same(all(d)) {
		t.Error("done once more it is another one")
	}
}
