package norm_test

import (
	"fmt"
	"testing"

	"tapestry/api"
	"tapestry/norm"
)

// P7.1: lists ahead of, between and behind children, of several depths, some of them empty.
func TestLists(t *testing.T) {
	p, q, r := host("p"), host("q"), host("r")
	three := []api.Child{kid("i:0", p), kid("i:1", q), kid("i:2", r)}
	for _, l := range [][]api.Value{
		of(p, q, r), of(list(p, q, r)), of(list(p), q, r), of(p, list(q), r), of(p, q, list(r)),
		of(list(p, q), r), of(p, list(q, r)), of(list(p), list(q), list(r)), of(list(list(p), q), r), of(p, list(q, list(r))),
		of(list(list(list(p))), list(list(q)), r), of(list(list(list(p), q), r)), of(list(p, list(q, list(r)))),
		of(nest(p, 9), nest(q, 1), nest(r, 63)), of(nest(list(nest(list(p, q), 4), r), 4)),
		of(list(), p, q, r), of(p, list(), q, r), of(p, q, list(), r), of(p, q, r, list()), of(list(list(), list()), list(p, list(), q), list(list(list())), r, list(list())),
	} {
		comes(t, l, three...)
	}
	for depth := range 200 {
		comes(t, of(nest(p, depth), q, nest(list(none(), r), depth)), kid("i:0", p), kid("i:1", q), kid("i:3", r))
	}
}

// P7.1: of a list its values count alone, not its other fields.
func TestListsOtherFields(t *testing.T) {
	p, q := host("p"), keyed(host("q"), "x")
	l := api.Value{Kind: api.List, N: 5, S: "a", F: record(field("a", text("f"))).F, Elem: api.ElHost, HasKey: true, Key: "x", L: of(p, q)}
	comes(t, of(l), kid("i:0", p), kid("k:x", q))
	comes(t, of(text("a"), l, list(l)), shown("i:0", "a"), kid("i:1", p), kid("k:x", q), kid("i:3", p), kid("i:4", q))
}

// P7.1: the children of an element are not gone through, nor is anything in a record or a deed.
func TestWithinOthers(t *testing.T) {
	in := of(text("in"), list(keyed(host("in"), "x")))
	out := keyed(host("out"), "x")
	for _, k := range elements() {
		v := elem(k, "a", in...)
		comes(t, of(v, out), kid("i:0", v), kid("k:x", out))
	}
	comes(t, of(record(field("a", list(in...))), out), kid("k:x", out))
	comes(t, of(deed(field("a", list(in...))), out), kid("k:x", out))
}

// stretches are values, one for each way to put a stretch of them (an empty one, too) into a list of its own.
func stretches(l []api.Value) [][]api.Value {
	var all [][]api.Value
	for i := 0; i <= len(l); i++ {
		for j := i; j <= len(l); j++ {
			put := append([]api.Value{}, l[:i]...)
			put = append(put, list(l[i:j]...))
			all = append(all, append(put, l[j:]...))
		}
	}
	return all
}

// some are values of which each can make a difference for others.
func some() []api.Value {
	return of(none(), text("a"), number(1), host("p"), keyed(host("p"), "x"), keyed(elem(api.ElComp, "q"), "x"), keyed(host("p"), "1"),
		keyed(record(), "x"), keyed(elem(api.ElNone, "p"), "x"), list(host("r"), list(keyed(host("p"), "x"))))
}

// each goes through all lists of up to n of some.
func each(n int, do func(l []api.Value)) {
	var with func(l []api.Value)
	with = func(l []api.Value) {
		do(l)
		if len(l) == n {
			return
		}
		for _, v := range some() {
			with(append(l[:len(l):len(l)], v))
		}
	}
	with(nil)
}

// P7.3: put into a list, any stretch of any values makes the same children, with the same keys.
func TestStretches(t *testing.T) {
	t.Parallel()
	each(4, func(l []api.Value) {
		want := held(t, l)
		for _, put := range stretches(l) {
			if got := norm.Kids(put); !sameKids(got, want) {
				t.Errorf("%v: %s; as %v: %s", l, tell(want), put, tell(got))
			}
		}
	})
}

// P7.3: stretches put into lists within stretches, too.
func TestStretchesWithinStretches(t *testing.T) {
	t.Parallel()
	l := of(keyed(host("p"), "x"), none(), text("a"), keyed(host("q"), "x"), list(), host("r"), keyed(host("s"), "y"))
	want := held(t, l)
	if len(want) != 5 {
		t.Errorf("%s", tell(want))
	}
	for _, once := range stretches(l) {
		for _, twice := range stretches(once) {
			for _, put := range stretches(twice) {
				if got := norm.Kids(put); !sameKids(got, want) {
					t.Fatalf("%v: %s, want %s", put, tell(got), tell(want))
				}
			}
		}
	}
}

// P7.3: a long stretch, cut into lists of each length.
func TestLongStretch(t *testing.T) {
	var l []api.Value
	for i := range 300 {
		l = append(l, of(number(int64(i)), none(), keyed(host("p"), fmt.Sprint(i%70)), host("q"), truth(1))[i%5])
	}
	want := held(t, l)
	for n := 1; n <= len(l); n++ {
		var cut []api.Value
		for i := 0; i < len(l); i += n {
			cut = append(cut, nest(list(l[i:min(i+n, len(l))]...), i%3))
		}
		if got := held(t, cut); !sameKids(got, want) {
			t.Errorf("cut by %d: %s, want %s", n, tell(got), tell(want))
		}
	}
}
