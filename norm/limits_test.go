package norm_test

import (
	"fmt"
	"testing"

	"tapestry/api"
	"tapestry/norm"
)

// many are n values, all of them children, of several kinds; each third one has a key.
func many(n int) []api.Value {
	var l []api.Value
	for i := range n {
		l = append(l, of(text("a"), host("p"), keyed(host("q"), fmt.Sprint(i)))[i%3])
	}
	return l
}

// P7.1: just MaxKids children, and one more.
func TestMaxKids(t *testing.T) {
	for _, n := range []int{api.MaxKids - 1, api.MaxKids, api.MaxKids + 1, api.MaxKids + 2, 2 * api.MaxKids} {
		l := many(n)
		for i, l := range [][]api.Value{l, of(list(l...)), append(l[:n-1:n-1], nest(l[n-1], 7)), of(list(l[:9]...), list(l[9:]...)), append(of(none()), l...)} {
			got := held(t, l)
			if len(got) != min(n, api.MaxKids) {
				t.Errorf("%d values, %d: %d children", n, i, len(got))
			}
		}
	}
}

// P7.1: what is no child does not count, wherever it stands.
func TestMaxKidsAndNoChildren(t *testing.T) {
	var l []api.Value
	for i, v := range many(api.MaxKids) {
		l = append(l, v)
		l = append(l, times(i%4, of(none(), record(), elem(api.ElNone, "p"), list())[i%4])...)
	}
	all := held(t, l)
	if len(all) != api.MaxKids {
		t.Fatalf("%d children", len(all))
	}
	// The last one in a list within lists, behind what is none, and one more behind it.
	last := keyed(host("last"), "last")
	l = append(l[:len(l):len(l)], nest(list(none(), last), 5), text("more"))
	if got := held(t, l); !sameKids(got, all) {
		t.Errorf("%s", tell(got[api.MaxKids-1:]))
	}
	got := held(t, l[1:])
	if len(got) != api.MaxKids || !sameKid(got[api.MaxKids-1], kid("k:last", last)) {
		t.Errorf("%s", tell(got[api.MaxKids-1:]))
	}
	got = held(t, l[2:])
	if len(got) != api.MaxKids || got[api.MaxKids-1].Value.S != "more" {
		t.Errorf("%s", tell(got[api.MaxKids-1:]))
	}
}

// P7.1: what stands beyond the limit makes no difference to what stands ahead of it.
func TestBeyondMaxKids(t *testing.T) {
	want := held(t, many(api.MaxKids))
	for _, more := range [][]api.Value{of(keyed(host("q"), "2")), of(none(), keyed(host("q"), "new")), of(list(list(host("p")))), times(100, list(text("a"), none())), of(list(), list(list()))} {
		if got := held(t, append(many(api.MaxKids), more...)); !sameKids(got, want) {
			t.Errorf("%v: %s", more, tell(got))
		}
	}
	within := append(many(api.MaxKids-2), nest(list(text("a"), host("p"), host("more"), list(host("more"))), 3), host("more"), list(host("more")))
	if got := held(t, within); !sameKids(got, append(want[:api.MaxKids-2:api.MaxKids-2], shown("i:4094", "a"), kid("i:4095", host("p")))) {
		t.Errorf("%s", tell(got[api.MaxKids-3:]))
	}
}

// P7.1: children of a child are no matter for the limit.
func TestKidsOfKids(t *testing.T) {
	v := host("p", times(5000, text("a"))...)
	comes(t, of(v, list(v), text("b")), kid("i:0", v), kid("i:1", v), shown("i:2", "b"))
}

// R1: a call ends soon, however deep lists and elements lie within one another.
func TestDeep(t *testing.T) {
	const deep = 1<<16 - 8
	l := of(host("p"), nest(list(append(times(20000, none()), many(api.MaxKids+1)...)...), deep), text("more"))
	got := norm.Kids(l)
	if len(got) != api.MaxKids || !unlike(got) || got[1].Key != "i:20001" || got[api.MaxKids-2].Key != "i:24094" || got[api.MaxKids-1].Key != "k:4094" {
		t.Errorf("%s", tell(got))
	}
	v := host("in")
	for range deep {
		v = host("p", v)
	}
	if got := norm.Kids(of(none(), v)); !sameKids(got, []api.Child{kid("i:1", v)}) {
		t.Error("an element with many within one another is another one")
	}
	v = text("in")
	for range deep / 2 {
		v = elem(api.ElComp, "A", list(v))
		v.F = []api.Field{field("a", record(field("b", none())))}
	}
	if got := norm.Kids(of(v)); !sameKids(got, []api.Child{kid("i:0", v)}) {
		t.Error("a component with many within one another is another one")
	}
}

// R1: many lists, and much that is no child.
func TestMuch(t *testing.T) {
	v := list(none(), list(), truth(0))
	for range 18 {
		v = list(v, list(), v)
	}
	got := norm.Kids(of(v, host("p"), v, host("q")))
	if !sameKids(got, []api.Child{kid("i:524288", host("p")), kid("i:1048577", host("q"))}) {
		t.Errorf("%s", tell(got))
	}
}
