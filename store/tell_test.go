package store_test

import (
	"testing"

	"tapestry/api"
	"tapestry/store"
)

// P12.3: of what was never asked for, what is waited for, what has come, and what is no key.
func TestGet(t *testing.T) {
	s := store.New()
	getsNone(t, s, someKeys()...)
	asks(t, s, true, someKeys()[:6]...)
	getsNone(t, s, someKeys()...)
	settles(t, s, good("b", number(5)), bad("a", words("why")))
	came(t, s, bad("a", words("why")), good("b", number(5)))
	getsNone(t, s, "", "a\x00", "\xff", "c", "B", "ab", "b ", long(api.MaxText), long(api.MaxText+1))
	// Get has asked for no key.
	waits(t, s, "", "a\x00", long(api.MaxText), "\xff")
	settles(t, s, good("", none()), good(long(api.MaxText), list()))
	came(t, s, good("", none()), bad("a", words("why")), good("b", number(5)), good(long(api.MaxText), list()))
	getsNone(t, s, "a\x00", "\xff", long(api.MaxText+1), long(api.MaxText-1))
}

// risingKeys are texts of any bytes, made by rising bytes: each one is followed by those that it begins.
func risingKeys() []string {
	l := []string{""}
	for b := range 256 {
		l = append(l, string([]byte{byte(b)}))
		for _, c := range []byte{0, 'a', 0x7f, 0x80, 0xff} {
			l = append(l, string([]byte{byte(b), c}), string([]byte{byte(b), c, 0}), string([]byte{byte(b), c, 0xff}))
		}
	}
	return l
}

// orders are the same in orders of all sorts; of step there is 7, which does not divide how many there are.
func orders[T any](l []T) map[string][]T {
	return map[string][]T{"rising": l, "falling": reversed(l), "turned": turned(l, 7), "turned and falling": reversed(turned(l, 7))}
}

// P12.3: of many keys, asked for and come in any order, both rise by their bytes, and hold each once.
func TestRising(t *testing.T) {
	keys := risingKeys()
	if len(keys)%7 == 0 {
		t.Fatal(len(keys))
	}
	var resources []api.Resource
	for i, key := range keys {
		resources = append(resources, api.Resource{Key: key, Fails: i%3 == 0, Value: number(int64(i))})
	}
	for why, order := range orders(keys) {
		for how, coming := range orders(resources) {
			s := store.New()
			for i, key := range order {
				asks(t, s, true, key)
				asks(t, s, false, order[i/2])
			}
			waits(t, s, keys...)
			came(t, s)
			settles(t, s, coming[:len(coming)/2]...)
			halves(t, s, keys, resources, coming[:len(coming)/2])
			settles(t, s, coming[len(coming)/2:]...)
			waits(t, s)
			came(t, s, resources...)
			if t.Failed() {
				t.Fatalf("asked for %s, come %s", why, how)
			}
		}
	}
}

// halves: of keys and their resources, by rising keys, have just these come?
func halves(t *testing.T, s *store.Store, keys []string, resources, coming []api.Resource) {
	t.Helper()
	has := map[string]bool{}
	for _, r := range coming {
		has[r.Key] = true
	}
	var waited []string
	var there []api.Resource
	for i, key := range keys {
		if has[key] {
			there = append(there, resources[i])
		} else {
			waited = append(waited, key)
		}
	}
	waits(t, s, waited...)
	came(t, s, there...)
	getsNone(t, s, waited...)
}

// P12.3: of none, and of one.
func TestOfNoneAndOfOne(t *testing.T) {
	s := store.New()
	waits(t, s)
	came(t, s)
	asks(t, s, true, "a")
	waits(t, s, "a")
	came(t, s)
	settles(t, s, bad("a", number(1)))
	waits(t, s)
	came(t, s, bad("a", number(1)))
}

// P12.3: what is told of a store changes nothing of it.
func TestTellingChangesNothing(t *testing.T) {
	s := store.New()
	asks(t, s, true, "b", "a", "d", "c")
	settles(t, s, good("d", list(number(1))), bad("a", none()))
	for range 5 {
		waits(t, s, "b", "c")
		came(t, s, bad("a", none()), good("d", list(number(1))))
		getsNone(t, s, "b", "c", "e")
	}
	refuses(t, s, api.ErrGone, good("e", number(1)), good("d", number(1)))
	settles(t, s, good("b", number(2)))
	asks(t, s, true, "e")
}
