package store_test

import (
	"bytes"
	"testing"

	"tapestry/api"
	"tapestry/store"
	"tapestry/value"
)

// A second reading of the chapter: a store is the calls that it did not refuse, and each answer is looked for among them.

// act is a call of Ask, with the key of r alone, or of Settle.
type act struct {
	settles bool
	r       api.Resource
}

func ask(key string) act         { return act{r: api.Resource{Key: key}} }
func settle(r api.Resource) act  { return act{settles: true, r: r} }
func isKey(key string) bool      { return len(key) < api.MaxText+1 }
func below(a, b string) bool     { return bytes.Compare([]byte(a), []byte(b)) < 0 }
func (a act) of(key string) bool { return a.r.Key == key }

// history is acts that were not refused, in the order in which they were done.
type history []act

// find is the first act of that key that settles, or asks.
func (h history) find(settles bool, key string) (act, bool) {
	for _, a := range h {
		if a.settles == settles && a.of(key) {
			return a, true
		}
	}
	return act{}, false
}

// answer of an act, were it done now.
func (h history) answer(a act) (bool, api.Errno) {
	_, asked := h.find(false, a.r.Key)
	_, came := h.find(true, a.r.Key)
	if !isKey(a.r.Key) || a.settles && !value.Check(a.r.Value) {
		return false, api.ErrArg
	}
	if a.settles && (!asked || came) {
		return false, api.ErrGone
	}
	return !a.settles && !asked, api.OK
}

// acts of that sort, each key's first one, that keep says so of, by rising keys.
func (h history) acts(settles bool, keep func(key string) bool) history {
	var l history
	for _, a := range h {
		if _, has := l.find(settles, a.r.Key); has || a.settles != settles || !keep(a.r.Key) {
			continue
		}
		at := 0
		for at < len(l) && below(l[at].r.Key, a.r.Key) {
			at++
		}
		l = append(l[:at], append(history{a}, l[at:]...)...)
	}
	return l
}

func (h history) asked() []string {
	var keys []string
	for _, a := range h.acts(false, func(key string) bool { _, came := h.find(true, key); return !came }) {
		keys = append(keys, a.r.Key)
	}
	return keys
}

func (h history) all() []api.Resource {
	var l []api.Resource
	for _, a := range h.acts(true, func(string) bool { return true }) {
		l = append(l, a.r)
	}
	return l
}

// held does these acts, and holds each answer against the second reading, and behind each one all that the store tells of itself and of these keys.
func held(t *testing.T, acts []act, keys []string) *store.Store {
	t.Helper()
	s, h := store.New(), history{}
	for i, a := range acts {
		was, errno := h.answer(a)
		got, e := false, api.OK
		if a.settles {
			e = s.Settle(a.r)
		} else {
			got, e = s.Ask(a.r.Key)
		}
		if got != was || e != errno {
			t.Fatalf("%s, at %d: %v, error %d, want %v, error %d", short(acts), i, got, e, was, errno)
		}
		if errno == api.OK {
			h = append(h, a)
		}
		heldBy(t, s, h, keys)
		if t.Failed() {
			t.Fatalf("%s, at %d", short(acts), i)
		}
	}
	return s
}

func heldBy(t *testing.T, s *store.Store, h history, keys []string) {
	t.Helper()
	waits(t, s, h.asked()...)
	came(t, s, h.all()...)
	for _, key := range keys {
		a, has := h.find(true, key)
		if !has {
			getsNone(t, s, key)
		} else if got, ok := s.Get(key); !ok || !sameResource(got, a.r) {
			t.Errorf("Get of %.20q: %s, %v, want %s", key, short(got), ok, short(a.r))
		}
	}
}
