package store_test

import (
	"slices"
	"testing"

	"tapestry/api"
	"tapestry/store"
)

// sequences hands each row of n of these to do.
func sequences[T any](l []T, n int, do func([]T)) {
	var extend func(row []T)
	extend = func(row []T) {
		if len(row) == n {
			do(row)
			return
		}
		for _, x := range l {
			extend(append(slices.Clone(row), x))
		}
	}
	extend(nil)
}

// P12.2 to P12.4: all rows of some calls, ordinary ones and ones that are refused.
func TestAllRowsOfCalls(t *testing.T) {
	tooLong := long(api.MaxText + 1)
	acts := []act{ask("a"), ask(""), ask("b"), ask(tooLong), settle(good("a", number(1))), settle(bad("a", none())), settle(good("a", truth(2))),
		settle(good("", list(none()))), settle(bad("b", words("b"))), settle(good(tooLong, number(1)))}
	sequences(acts, 4, func(row []act) { held(t, row, []string{"a", "", "b", "c", tooLong}) })
}

// P12.2 to P12.4: longer rows, of fewer calls.
func TestLongerRowsOfCalls(t *testing.T) {
	acts := []act{ask("b"), ask("a"), settle(good("b", number(1))), settle(bad("a", number(2)))}
	sequences(acts, 7, func(row []act) { held(t, row, []string{"a", "b", "c"}) })
}

// mixes hands each way in which rows are mixed into one to do, each row in its own order.
func mixes(rows [][]act, done []act, do func([]act)) {
	ended := true
	for i, row := range rows {
		if len(row) > 0 {
			ended = false
			left := slices.Clone(rows)
			left[i] = row[1:]
			mixes(left, append(slices.Clone(done), row[0]), do)
		}
	}
	if ended {
		do(done)
	}
}

// P12.4: in which order keys were asked for, and came, makes no difference; nor does how often it was tried.
func TestOrder(t *testing.T) {
	rows := [][]act{{ask("c"), settle(good("c", number(3)))}, {ask("a"), settle(bad("a", number(1)))}, {ask("")}, {ask("b"), ask("b"), settle(good("b", none()))}}
	want := told{[]string{""}, []api.Resource{bad("a", number(1)), good("b", none()), good("c", number(3))}}
	n := 0
	mixes(rows, nil, func(l []act) {
		n++
		if got := all(held(t, l, []string{"", "a", "b", "c"})); !got.same(want) {
			t.Errorf("%s: %s", short(l), short(got))
		}
	})
	// Of 8 calls, in the rows' orders: 8! by 2, 2, 1 and 6.
	if n != 1680 {
		t.Errorf("%d ways", n)
	}
}

// P12.4: Asked and All together are what was asked for, each once, whatever has come.
func TestTogether(t *testing.T) {
	keys := []string{"", "a", "a\x00", "ab", "b", "\x80", "\xff"}
	for which := range 1 << len(keys) {
		s := store.New()
		asks(t, s, true, turned(keys, 3)...)
		for i, key := range keys {
			if which>>i&1 == 1 {
				settles(t, s, api.Resource{Key: key, Fails: i%2 == 0, Value: number(int64(i))})
			}
		}
		got := s.Asked()
		for _, r := range s.All() {
			if !slices.Contains(keys, r.Key) || which>>slices.Index(keys, r.Key)&1 == 0 {
				t.Errorf("%b: %.20q has come", which, r.Key)
			}
			got = append(got, r.Key)
		}
		slices.Sort(got)
		if !slices.Equal(got, keys) {
			t.Errorf("%b: together %q", which, got)
		}
	}
}

// P12.4: what has come stays as it is, whatever is done behind it.
func TestStays(t *testing.T) {
	s := store.New()
	asks(t, s, true, "k")
	settles(t, s, bad("k", record(field("a", list(number(1))))))
	for i := range 300 {
		key := string([]byte{byte(i), byte(i >> 8), 'x'})
		asks(t, s, true, key)
		asks(t, s, false, "k")
		settles(t, s, good(key, number(int64(i))))
		if errno := s.Settle(good("k", number(int64(i)))); errno != api.ErrGone {
			t.Errorf("%d: error %d", i, errno)
		}
		if got, ok := s.Get("k"); !ok || !sameResource(got, bad("k", record(field("a", list(number(1)))))) {
			t.Errorf("%d: %s, %v", i, short(got), ok)
		}
	}
}
