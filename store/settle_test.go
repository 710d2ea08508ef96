package store_test

import (
	"testing"

	"tapestry/api"
	"tapestry/store"
	"tapestry/value"
)

// mayBe are values of every kind, at the limits too.
func mayBe() []api.Value {
	again := []api.Field{field("again", deed()), field("else", words("x"))}
	return []api.Value{none(), number(0), number(-5), number(1<<63 - 1), number(-1 << 63), truth(0), truth(1), words(""), words("a\x00\xff\n\"é"),
		words(long(api.MaxText)), list(), list(none(), number(1), list(words("a"))), record(), record(field("a", number(1)), field("b", list())),
		record(field(long(api.MaxText), none())), deed(), deed(field("x", number(1)), field("y", deed())), element(api.ElHost, "p", nil),
		element(api.ElHost, "p", []api.Field{field("id", number(1)), field("on:x", deed())}, words("hi"), number(2)),
		element(api.ElComp, "A", []api.Field{field("a", none())}), element(api.ElMemo, "A", nil, none()), element(api.ElFrag, "", nil, none()),
		element(api.ElPortal, "top", nil, words("x")), element(api.ElGive, "c", []api.Field{field("value", number(1))}),
		element(api.ElGuard, "", again, words("y")), element(api.ElWait, "", []api.Field{field("else", none())}),
		{Kind: api.Elem, Elem: api.ElFrag, HasKey: true}, {Kind: api.Elem, Elem: api.ElHost, S: "p", HasKey: true, Key: "k"},
		wide(api.MaxNodes), nest(none(), api.MaxDeep-1)}
}

// mayNotBe are values that may not.
func mayNotBe() []api.Value {
	return []api.Value{truth(2), truth(-1), {N: 1}, {S: "x"}, {Key: "k"}, {HasKey: true}, {Elem: api.ElHost}, {Kind: api.Int, S: "x"}, {Kind: api.Text, N: 1},
		{Kind: api.Record, L: []api.Value{none()}}, {Kind: api.List, F: []api.Field{field("a", none())}}, {Kind: 8}, {Kind: 255},
		record(field("", none())), record(field("b", none()), field("a", none())), record(field("a", none()), field("a", none())),
		deed(field("b", none()), field("a", none())), element(api.ElNone, "p", nil), element(api.ElText, "p", nil), element(255, "p", nil),
		element(api.ElHost, "", nil), element(api.ElFrag, "p", nil), element(api.ElPortal, "", nil), element(api.ElGive, "c", nil),
		element(api.ElGuard, "", []api.Field{field("else", none())}), {Kind: api.Elem, Elem: api.ElFrag, Key: "k"}, words(long(api.MaxText + 1)),
		record(field(long(api.MaxText+1), none())), wide(api.MaxNodes + 1), nest(none(), api.MaxDeep)}
}

// wide is a list of n parts in all.
func wide(n int) api.Value { return list(make([]api.Value, n-1)...) }

// nest lays a value within n lists.
func nest(v api.Value, n int) api.Value {
	for range n {
		v = list(v)
	}
	return v
}

// within are the ways in which a value lies within another one.
func within(v api.Value) []api.Value {
	f := []api.Field{field("value", v)}
	return []api.Value{list(v), list(none(), v), record(f...), deed(f...), element(api.ElHost, "p", f), element(api.ElFrag, "", nil, none(), v),
		element(api.ElGive, "c", f), nest(v, 9), list(none(), record(field("a", none()), field("b", list(v, none()))))}
}

// P12.2: what was asked for comes, whatever its value is, and whether it fails.
func TestSettle(t *testing.T) {
	for _, v := range mayBe() {
		for _, r := range []api.Resource{good("k", v), bad("k", v)} {
			s := store.New()
			refuses(t, s, api.ErrGone, r)
			asks(t, s, true, "k", "other")
			settles(t, s, r)
			came(t, s, r)
			waits(t, s, "other")
			getsNone(t, s, "other")
		}
	}
}

// P12.2: a key that was not asked for, beside others that were, and have come.
func TestSettleOfWhatWasNotAskedFor(t *testing.T) {
	s := store.New()
	asks(t, s, true, "b", "d")
	settles(t, s, good("b", number(1)))
	for _, key := range []string{"", "a", "c", "e", "B", "bb", "b\x00", "\x00b", " b", long(api.MaxText)} {
		refuses(t, s, api.ErrGone, good(key, number(1)), bad(key, number(1)), good(key, none()))
		getsNone(t, s, key)
	}
	asks(t, s, true, "a")
	settles(t, s, good("a", number(2)))
	came(t, s, good("a", number(2)), good("b", number(1)))
}

// P12.2 and P12.4: what has come comes no more: with the same value, with another one, as one that fails and as one that does not.
func TestSettleOfWhatHasCome(t *testing.T) {
	for _, r := range []api.Resource{good("k", number(5)), bad("k", number(5)), good("k", none()), bad("k", list(number(5)))} {
		s := store.New()
		asks(t, s, true, "k", "l")
		settles(t, s, r)
		for range 2 {
			refuses(t, s, api.ErrGone, r)
			for _, v := range mayBe() {
				refuses(t, s, api.ErrGone, good("k", v), bad("k", v))
			}
			asks(t, s, false, "k")
			came(t, s, r)
			waits(t, s, "l")
		}
	}
}

// P12.2: a value that may not be, at the top and within another one; the key is waited for still.
func TestSettleWithWhatMayNotBe(t *testing.T) {
	s := store.New()
	asks(t, s, true, "k", "came")
	settles(t, s, good("came", number(1)))
	for _, v := range mayNotBe() {
		for _, v := range append(within(v), v) {
			refuses(t, s, api.ErrArg, good("k", v), bad("k", v))
		}
		getsNone(t, s, "k")
	}
	for i, v := range within(number(1)) {
		if !value.Check(v) {
			t.Errorf("%d may not be, whatever lies in it", i)
		}
	}
	settles(t, s, good("k", number(5)))
	came(t, s, good("came", number(1)), good("k", number(5)))
}

// P12.2: a key that is none goes ahead of whether it was asked for.
func TestSettleWithoutKey(t *testing.T) {
	s := store.New()
	asks(t, s, true, "k", long(api.MaxText))
	for _, key := range []string{long(api.MaxText + 1), long(1 << 20), long(api.MaxText-1) + "é"} {
		refuses(t, s, api.ErrArg, good(key, number(1)), bad(key, number(1)), good(key, truth(2)))
		getsNone(t, s, key)
	}
	waits(t, s, "k", long(api.MaxText))
}

// P12.2: where several errors apply, the one that is named first is told.
func TestWhichError(t *testing.T) {
	s := store.New()
	asks(t, s, true, "waited", "came")
	settles(t, s, good("came", number(1)))
	for _, v := range mayNotBe() {
		for _, key := range []string{"waited", "came", "never", "", long(api.MaxText), long(api.MaxText + 1)} {
			refuses(t, s, api.ErrArg, good(key, v), bad(key, v))
		}
	}
	refuses(t, s, api.ErrGone, good("came", number(1)), good("never", number(1)))
	refuses(t, s, api.ErrArg, good(long(api.MaxText+1), number(1)))
}
