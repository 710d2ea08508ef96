package norm_test

import (
	"fmt"
	"math"
	"strings"
	"testing"

	"tapestry/api"
)

// shows: is the value shown as this child, alone and among others, wherever it stands?
func shows(t *testing.T, v api.Value, want api.Child) {
	t.Helper()
	at := func(place int) api.Child {
		c := want
		if !strings.HasPrefix(c.Key, "k:") {
			c.Key = fmt.Sprint("i:", place)
		}
		return c
	}
	p, a := host("p"), text("a")
	comes(t, of(v), at(0))
	comes(t, of(nest(v, 3)), at(0))
	comes(t, of(v, p, a), at(0), kid("i:1", p), shown("i:2", "a"))
	comes(t, of(p, v, a), kid("i:0", p), at(1), shown("i:2", "a"))
	comes(t, of(p, list(a, v)), kid("i:0", p), shown("i:1", "a"), at(2))
}

// isNone: is the value no child, alone and among others, and does it have a place?
func isNone(t *testing.T, v api.Value) {
	t.Helper()
	p, a := host("p"), text("a")
	comes(t, of(v))
	comes(t, of(nest(v, 3)))
	comes(t, of(v, p, a), kid("i:1", p), shown("i:2", "a"))
	comes(t, of(p, v, a), kid("i:0", p), shown("i:2", "a"))
	comes(t, of(p, list(a, v)), kid("i:0", p), shown("i:1", "a"))
	comes(t, of(p, list(v, list(v, v), a), v, p), kid("i:0", p), shown("i:4", "a"), kid("i:6", p))
}

// P7.1: what is no child.
func TestNoChildren(t *testing.T) {
	for _, v := range []api.Value{
		none(), truth(0), truth(1), truth(2), record(), record(field("a", host("p"))), deed(), deed(field("a", text("x"))),
		// Some that may not be: only a List's values are gone through.
		{L: of(host("p"), text("a"))}, {S: "a", N: 5, Elem: api.ElHost},
		{Kind: api.Bool, N: 1, S: "a", L: of(text("a"))},
		{Kind: api.Record, L: of(text("a"), host("p")), F: record(field("a", text("x"))).F},
		{Kind: api.Deed, L: of(text("a"), host("p")), Elem: api.ElHost},
		// A key of what is no child.
		keyed(none(), "x"), keyed(truth(1), "x"), keyed(record(), "x"), keyed(deed(), "x"),
	} {
		isNone(t, v)
	}
}

// P7.1: kinds that there are not.
func TestKindsThatThereAreNot(t *testing.T) {
	for k := 8; k < 256; k++ {
		isNone(t, api.Value{Kind: api.Kind(k)})
		isNone(t, api.Value{Kind: api.Kind(k), N: 5, S: "a", Elem: api.ElHost, HasKey: true, Key: "x", L: of(text("a"), host("p"))})
	}
}

// P7.1: elements of each number there can be, with a name and without one.
func TestElements(t *testing.T) {
	is := map[api.ElemKind]bool{}
	for _, k := range elements() {
		is[k] = true
	}
	for n := range 256 {
		k := api.ElemKind(n)
		for _, v := range []api.Value{elem(k, ""), elem(k, "a"), elem(k, "a", text("x"), host("b", host("c")))} {
			v.F = []api.Field{field("again", none()), field("else", list(number(1)))}
			if is[k] {
				shows(t, v, kid("i:", v))
				shows(t, keyed(v, "x"), kid("k:x", keyed(v, "x")))
			} else {
				isNone(t, v)
				isNone(t, keyed(v, "x"))
			}
		}
	}
	if len(is) != 8 {
		t.Errorf("%d kinds", len(is))
	}
}

// P7.1: an element's child has it as it is, whatever its fields say; its own children are no children here.
func TestElementsAsTheyAre(t *testing.T) {
	v := api.Value{Kind: api.Elem, Elem: api.ElMemo, N: 9, S: "A\x00\xff", HasKey: true, Key: "k\n",
		F: []api.Field{field("b", none()), field("a", deed(field("x", list()))), field("a", api.Value{Kind: 77})},
		L: of(text("x"), list(host("p"), keyed(host("q"), "k\n")), api.Value{Kind: 8, L: of(text("y"))})}
	shows(t, v, api.Child{Key: "k:k\n", Kind: api.ElMemo, Name: "A\x00\xff", Value: v})
	v.HasKey = false
	shows(t, v, api.Child{Key: "i:", Kind: api.ElMemo, Name: "A\x00\xff", Value: v})
}

// P7.1: ints are told by their digits.
func TestInts(t *testing.T) {
	for n, s := range map[int64]string{
		0: "0", 1: "1", 9: "9", 10: "10", -1: "-1", -10: "-10", 5: "5", 100: "100", 255: "255", 256: "256",
		math.MaxInt32: "2147483647", math.MinInt32: "-2147483648", math.MaxUint32: "4294967295",
		math.MaxInt64: "9223372036854775807", math.MinInt64: "-9223372036854775808",
		math.MaxInt64 - 1: "9223372036854775806", math.MinInt64 + 1: "-9223372036854775807",
	} {
		shows(t, number(n), shown("i:", s))
	}
}

// P7.1: texts are what they are, whatever their bytes.
func TestTexts(t *testing.T) {
	for _, s := range []string{"", " ", "a", "\"", "\\", "\n", "\x00", "\xff\xfe", "é", "5", "-0", "none", "i:0", "k:x", strings.Repeat("x", 4096), strings.Repeat("x", 4097)} {
		shows(t, text(s), shown("i:", s))
	}
}

// P7.1: of an Int its digits, of a Text its S, and nothing else of either.
func TestNothingElseOfIntsAndTexts(t *testing.T) {
	full := api.Value{N: -12, S: "abc", L: of(host("p"), text("y")), F: record(field("a", none())).F, Elem: api.ElHost, HasKey: true, Key: "x"}
	full.Kind = api.Int
	shows(t, full, shown("i:", "-12"))
	full.Kind = api.Text
	shows(t, full, shown("i:", "abc"))
	full.Elem, full.HasKey = api.ElComp, false
	shows(t, full, shown("i:", "abc"))
}
