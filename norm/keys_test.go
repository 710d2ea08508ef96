package norm_test

import (
	"fmt"
	"strings"
	"testing"

	"tapestry/api"
)

// P7.1: keys of any bytes, with their mark.
func TestKeys(t *testing.T) {
	for _, key := range []string{"", " ", "a", "x y", "k", "k:", "k:x", "i:0", "i", ":", "0", "1", "-1", "\x00", "\xff", "\n", "\"", "é", strings.Repeat("x", 4096), strings.Repeat("x", 4097)} {
		for _, k := range elements() {
			shows(t, keyed(elem(k, "a"), key), kid("k:"+key, keyed(elem(k, "a"), key)))
		}
	}
}

// P7.1: keys that differ by little are others.
func TestKeysThatAreOthers(t *testing.T) {
	var l []api.Value
	var want []api.Child
	for _, key := range []string{"", "a", "A", "ab", "b", "a ", " a", "a\x00", "\x00", "k:a", "k:k:a", "i:1", "1", "01", "aa"} {
		v := keyed(host("p"), key)
		l, want = append(l, v), append(want, kid("k:"+key, v))
	}
	comes(t, l, want...)
}

// P7.1: a Key counts only where HasKey is set; HasKey alone makes an empty one.
func TestHasKey(t *testing.T) {
	p, q := host("p"), host("q")
	bare := p
	bare.Key = "x"
	comes(t, of(bare), kid("i:0", bare))
	comes(t, of(none(), bare, bare), kid("i:1", bare), kid("i:2", bare))
	// It takes no key away, either.
	comes(t, of(bare, keyed(q, "x"), bare), kid("i:0", bare), kid("k:x", keyed(q, "x")), kid("i:2", bare))
	empty := keyed(p, "")
	comes(t, of(empty), kid("k:", empty))
	comes(t, of(p, empty, q), kid("i:0", p), kid("k:", empty), kid("i:2", q))
	comes(t, of(empty, keyed(q, ""), empty, keyed(q, "x")), kid("k:", empty), kid("i:1", keyed(q, "")), kid("i:2", empty), kid("k:x", keyed(q, "x")))
}

// P7.1: twice and three times the same key, next to one another, far apart, and in unlike lists: the first one takes it.
func TestSameKey(t *testing.T) {
	x, y, z := keyed(host("p"), "x"), keyed(elem(api.ElComp, "B"), "x"), keyed(elem(api.ElFrag, ""), "x")
	comes(t, of(x, y), kid("k:x", x), kid("i:1", y))
	comes(t, of(y, x), kid("k:x", y), kid("i:1", x))
	comes(t, of(x, x), kid("k:x", x), kid("i:1", x))
	comes(t, of(x, y, z), kid("k:x", x), kid("i:1", y), kid("i:2", z))
	comes(t, of(z, z, z), kid("k:x", z), kid("i:1", z), kid("i:2", z))
	comes(t, of(list(x), y), kid("k:x", x), kid("i:1", y))
	comes(t, of(x, list(y)), kid("k:x", x), kid("i:1", y))
	comes(t, of(list(x), list(y), list(z)), kid("k:x", x), kid("i:1", y), kid("i:2", z))
	comes(t, of(list(list(x), none()), list(none(), list(list(y))), z), kid("k:x", x), kid("i:3", y), kid("i:4", z))
	a := text("a")
	var want []api.Child
	var l []api.Value
	for i := range 1000 {
		c, v := shown(fmt.Sprint("i:", i), "a"), a
		switch i {
		case 3:
			c, v = kid("k:x", x), x
		case 500:
			c, v = kid("i:500", y), nest(y, 5)
		case 999:
			c, v = kid("i:999", z), z
		}
		l, want = append(l, v), append(want, c)
	}
	comes(t, l, want...)
}

// P7.1: several keys, each twice, mixed.
func TestSeveralKeys(t *testing.T) {
	p := func(key string) api.Value { return keyed(host("p"), key) }
	comes(t, of(p("x"), p("y"), p("x"), p("y"), p("z"), p("x")),
		kid("k:x", p("x")), kid("k:y", p("y")), kid("i:2", p("x")), kid("i:3", p("y")), kid("k:z", p("z")), kid("i:5", p("x")))
	comes(t, of(p("x"), p("x"), p("y"), p("y")), kid("k:x", p("x")), kid("i:1", p("x")), kid("k:y", p("y")), kid("i:3", p("y")))
}

// P7.1: a key that reads as digits, or as a key with its mark, beside a child whose place has these digits.
func TestKeysAsPlaces(t *testing.T) {
	p, q := host("p"), host("q")
	for place := range 12 {
		for _, key := range []string{fmt.Sprint(place), fmt.Sprint("i:", place), fmt.Sprint("k:", place)} {
			for at := range 12 {
				l, want := times(12, q), []api.Child{}
				l[at] = keyed(p, key)
				for i := range l {
					want = append(want, kid(fmt.Sprint("i:", i), q))
				}
				want[at] = kid("k:"+key, l[at])
				comes(t, l, want...)
			}
		}
	}
	// And where the one of that key comes twice.
	comes(t, of(keyed(p, "1"), keyed(q, "1"), keyed(p, "2")), kid("k:1", keyed(p, "1")), kid("i:1", keyed(q, "1")), kid("k:2", keyed(p, "2")))
	comes(t, of(keyed(p, "i:1"), keyed(q, "i:1"), q), kid("k:i:1", keyed(p, "i:1")), kid("i:1", keyed(q, "i:1")), kid("i:2", q))
}

// P7.1: what is no element that is a child has no key, and takes none away.
func TestNoKeyIsTakenAway(t *testing.T) {
	x := keyed(host("p"), "x")
	for _, v := range []api.Value{
		keyed(none(), "x"), keyed(truth(1), "x"), keyed(record(), "x"), keyed(deed(), "x"), keyed(list(), "x"), keyed(api.Value{Kind: 8}, "x"),
		keyed(elem(api.ElNone, "p"), "x"), keyed(elem(api.ElText, "p"), "x"), keyed(elem(10, "p"), "x"), keyed(elem(255, "p"), "x"),
	} {
		place := "i:1"
		if v.Kind == api.List {
			place = "i:0"
		}
		comes(t, of(v, x), kid("k:x", x))
		comes(t, of(list(v, v), list(v, x)), kid("k:x", x))
		comes(t, of(v, host("q"), x), kid(place, host("q")), kid("k:x", x))
	}
	// Children whose values are none of Elem have no keys, either.
	for _, v := range []api.Value{keyed(text("a"), "x"), keyed(number(5), "x"), {Kind: api.Text, S: "x", Elem: api.ElHost, HasKey: true, Key: "x"}} {
		got := held(t, of(v, x, v))
		if len(got) != 3 || got[0].Key != "i:0" || got[1].Key != "k:x" || got[2].Key != "i:2" {
			t.Errorf("%v: %s", v, tell(got))
		}
	}
}

// P7.1: places above 9 and above 99, counted over what is no child.
func TestPlaces(t *testing.T) {
	p, x := host("p"), keyed(host("q"), "x")
	for _, v := range []api.Value{none(), truth(1), record(), deed(), elem(api.ElNone, "p"), {Kind: 8}, text("a"), number(5), host("r")} {
		for _, n := range []int{1, 8, 9, 10, 11, 19, 20, 98, 99, 100, 101, 110, 999, 1000, 4000} {
			got := held(t, append(times(n, v), p, x, x, list(none(), p)))
			got = got[len(got)-4:]
			want := []api.Child{kid(fmt.Sprint("i:", n), p), kid("k:x", x), kid(fmt.Sprint("i:", n+2), x), kid(fmt.Sprint("i:", n+4), p)}
			if !sameKids(got, want) {
				t.Errorf("behind %d of %v: %s", n, v, tell(got))
			}
		}
	}
	comes(t, append(times(70000, none()), p, x), kid("i:70000", p), kid("k:x", x))
}
