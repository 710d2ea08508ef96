package store_test

import (
	"strconv"
	"testing"

	"tapestry/api"
	"tapestry/store"
)

// R1: very many keys, told in the end.
func TestManyKeys(t *testing.T) {
	t.Parallel()
	const n = 200000
	s := store.New()
	for i := n; i > 0; i-- {
		asks(t, s, true, strconv.Itoa(n+i))
	}
	for i := 1; i <= n; i += 2 {
		settles(t, s, good(strconv.Itoa(n+i), number(int64(i))))
	}
	asked, all := s.Asked(), s.All()
	if len(asked) != n/2 || len(all) != n/2 {
		t.Fatalf("%d, %d", len(asked), len(all))
	}
	for i := range n / 2 {
		if asked[i] != strconv.Itoa(n+2*i+2) || !sameResource(all[i], good(strconv.Itoa(n+2*i+1), number(int64(2*i+1)))) {
			t.Fatalf("at %d: %q, %s", i, asked[i], short(all[i]))
		}
	}
}

// R1: of very many keys each one is got soon.
func TestGetOfMany(t *testing.T) {
	t.Parallel()
	const n = 100000
	s := store.New()
	for i := range n {
		key := strconv.Itoa(i)
		asks(t, s, true, key)
		settles(t, s, good(key, number(int64(i))))
		if r, ok := s.Get(strconv.Itoa(i / 2)); !ok || r.Value.N != int64(i/2) {
			t.Fatalf("%d: %s, %v", i, short(r), ok)
		}
	}
}

// R1: far more parts, and far deeper, than may be; and a value that holds itself.
func TestGreatValues(t *testing.T) {
	s := store.New()
	asks(t, s, true, "k", "came")
	settles(t, s, good("came", none()))
	self := list(none(), none())
	self.L[0], self.L[1] = self, self
	f := api.Value{Kind: api.Record, F: make([]api.Field, 1)}
	f.F[0] = field("a", f)
	// Each part stands in it twice, and each of its own parts again.
	twice := none()
	for range 63 {
		twice = list(twice, twice)
	}
	for _, v := range []api.Value{wide(1 << 20), nest(none(), 1<<16), self, f, twice, words(long(1 << 20))} {
		for _, key := range []string{"k", "came", "never", long(1 << 20)} {
			if errno := s.Settle(good(key, v)); errno != api.ErrArg {
				t.Errorf("%.20q: error %d", key, errno)
			}
		}
	}
	waits(t, s, "k")
	came(t, s, good("came", none()))
}

// P12.2: as great as may be.
func TestGreatestValues(t *testing.T) {
	s := store.New()
	wideRecord := record(make([]api.Field, api.MaxNodes-1)...)
	for i := range wideRecord.F {
		wideRecord.F[i].Name = strconv.Itoa(10000 + i)
	}
	for i, v := range []api.Value{wide(api.MaxNodes), nest(none(), api.MaxDeep-1), nest(wide(api.MaxNodes-62), 62), wideRecord, words(long(api.MaxText))} {
		key := long(api.MaxText-1) + strconv.Itoa(i)
		asks(t, s, true, key)
		settles(t, s, good(key, v))
		if got, ok := s.Get(key); !ok || !sameResource(got, good(key, v)) {
			t.Errorf("%d: %s, %v", i, short(got), ok)
		}
	}
	if l := s.All(); len(l) != 5 {
		t.Errorf("%d have come", len(l))
	}
}
