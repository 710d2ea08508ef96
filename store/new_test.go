package store_test

import (
	"testing"

	"tapestry/api"
	"tapestry/store"
)

// someKeys are ordinary ones, ones at the limit, and one that is none.
func someKeys() []string {
	return []string{"", "a", "b", "a\x00", "\xff", long(api.MaxText), long(api.MaxText + 1)}
}

// bare: does the store tell nothing?
func bare(t *testing.T, s *store.Store) {
	t.Helper()
	getsNone(t, s, someKeys()...)
	waits(t, s)
	came(t, s)
}

// P12.1: nothing was asked for, so that nothing is waited for, has come, or can come.
func TestNew(t *testing.T) {
	s := store.New()
	if s == nil {
		t.Fatal("there is none")
	}
	bare(t, s)
	for _, key := range someKeys()[:6] {
		refuses(t, s, api.ErrGone, good(key, none()), good(key, number(5)), bad(key, words("x")))
	}
	bare(t, s)
	for _, key := range someKeys()[:6] {
		fresh := store.New()
		asks(t, fresh, true, key)
		waits(t, fresh, key)
	}
	bare(t, s)
}

// R5: two stores share nothing.
func TestTwoStores(t *testing.T) {
	a, b := store.New(), store.New()
	if a == b {
		t.Fatal("they are one")
	}
	asks(t, a, true, "x", "y")
	settles(t, a, good("x", list(number(1))))
	bare(t, b)
	refuses(t, b, api.ErrGone, good("y", number(1)), good("x", number(1)))
	asks(t, b, true, "x", "z")
	settles(t, b, bad("x", words("no")))
	waits(t, a, "y")
	came(t, a, good("x", list(number(1))))
	waits(t, b, "z")
	came(t, b, bad("x", words("no")))
	bare(t, store.New())
}

// R3: a store that is not there answers ErrNil, whatever the arguments, and else zero values; it does nothing. One that no call made likewise.
func TestNotThere(t *testing.T) {
	for why, s := range map[string]*store.Store{"nil": nil, "zero": {}} {
		for range 2 {
			for _, key := range someKeys() {
				if got, errno := s.Ask(key); got || errno != api.ErrNil {
					t.Errorf("%s, Ask of %.20q: %v, error %d", why, key, got, errno)
				}
				for _, v := range append(mayNotBe(), none(), number(5), list(none())) {
					for _, r := range []api.Resource{good(key, v), bad(key, v)} {
						if errno := s.Settle(r); errno != api.ErrNil {
							t.Errorf("%s, Settle of %s: error %d", why, short(r), errno)
						}
					}
				}
			}
			bare(t, s)
		}
	}
}
