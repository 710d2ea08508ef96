package store_test

import (
	"testing"

	"tapestry/api"
	"tapestry/store"
)

// P12.2: asked for the first time, again while it is waited for, and again when it has come.
func TestAsk(t *testing.T) {
	for _, key := range someKeys()[:6] {
		for _, r := range []api.Resource{good(key, number(5)), good(key, none()), bad(key, words("x"))} {
			s := store.New()
			asks(t, s, true, key)
			waits(t, s, key)
			asks(t, s, false, key, key)
			waits(t, s, key)
			settles(t, s, r)
			asks(t, s, false, key, key)
			waits(t, s)
			came(t, s, r)
		}
	}
}

// P12.2: each key is asked for by itself, whatever was asked for ahead of it.
func TestAskOfMany(t *testing.T) {
	s := store.New()
	for i, key := range someKeys()[:6] {
		asks(t, s, true, key)
		asks(t, s, false, someKeys()[:i+1]...)
	}
	waits(t, s, "", "a", "a\x00", "b", long(api.MaxText), "\xff")
	settles(t, s, good("a", number(1)), good("", number(2)))
	asks(t, s, false, someKeys()[:6]...)
	asks(t, s, true, "c", "A", "aa", " ", "a ")
}

// P12.2: the empty text is a key as any other one.
func TestEmptyKey(t *testing.T) {
	s := store.New()
	refuses(t, s, api.ErrGone, good("", number(1)))
	asks(t, s, true, "")
	getsNone(t, s, "")
	waits(t, s, "")
	asks(t, s, true, "a")
	waits(t, s, "", "a")
	settles(t, s, good("", number(1)))
	waits(t, s, "a")
	came(t, s, good("", number(1)))
	refuses(t, s, api.ErrGone, good("", number(2)))
	settles(t, s, good("a", number(3)))
	came(t, s, good("", number(1)), good("a", number(3)))
}

// P12.2: a key has at most MaxText bytes; one that is longer was not asked for, however often it is.
func TestLongKeys(t *testing.T) {
	s := store.New()
	for _, n := range []int{api.MaxText + 1, api.MaxText + 2, 2 * api.MaxText, 1 << 20} {
		asksNone(t, s, long(n))
		asksNone(t, s, long(n))
		refuses(t, s, api.ErrArg, good(long(n), number(1)))
	}
	bare(t, s)
	asks(t, s, true, long(api.MaxText), long(api.MaxText-1))
	asksNone(t, s, long(api.MaxText+1))
	settles(t, s, good(long(api.MaxText), number(1)))
	asksNone(t, s, long(api.MaxText+1))
	getsNone(t, s, long(api.MaxText+1))
	waits(t, s, long(api.MaxText-1))
	came(t, s, good(long(api.MaxText), number(1)))
	// Bytes count, not runes.
	asksNone(t, s, long(api.MaxText-1)+"é")
	asks(t, s, true, long(api.MaxText-2)+"é")
}

// P12.2: keys differ by any byte, the last one of the longest ones too.
func TestKeysOfAnyBytes(t *testing.T) {
	for _, ahead := range []string{"", "a", "é", long(api.MaxText - 1)} {
		s := store.New()
		for b := range 256 {
			key := ahead + string([]byte{byte(b)})
			refuses(t, s, api.ErrGone, good(key, none()))
			asks(t, s, true, key)
			asks(t, s, false, key)
			settles(t, s, good(key, number(int64(b))))
		}
		for i, r := range s.All() {
			if r.Key != ahead+string([]byte{byte(i)}) || r.Value.N != int64(i) {
				t.Errorf("at %d: %s", i, short(r))
			}
		}
		waits(t, s)
		getsNone(t, s, ahead)
	}
}
