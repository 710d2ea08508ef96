package store_test

import (
	"fmt"
	"slices"
	"strings"
	"testing"

	"tapestry/api"
	"tapestry/store"
	"tapestry/value"
)

// What the tests make values, resources and stores by.

func none() api.Value                          { return api.Value{} }
func number(n int64) api.Value                 { return api.Value{Kind: api.Int, N: n} }
func truth(n int64) api.Value                  { return api.Value{Kind: api.Bool, N: n} }
func words(s string) api.Value                 { return api.Value{Kind: api.Text, S: s} }
func list(l ...api.Value) api.Value            { return api.Value{Kind: api.List, L: l} }
func record(l ...api.Field) api.Value          { return api.Value{Kind: api.Record, F: l} }
func field(name string, v api.Value) api.Field { return api.Field{Name: name, Value: v} }
func deed(l ...api.Field) api.Value            { return api.Value{Kind: api.Deed, N: 7, S: "App#0", F: l} }
func long(n int) string                        { return strings.Repeat("x", n) }

func element(k api.ElemKind, s string, f []api.Field, l ...api.Value) api.Value {
	return api.Value{Kind: api.Elem, Elem: k, S: s, F: f, L: l}
}

// good is a resource that does not fail.
func good(key string, v api.Value) api.Resource { return api.Resource{Key: key, Value: v} }

// bad is a resource that fails.
func bad(key string, v api.Value) api.Resource {
	return api.Resource{Key: key, Fails: true, Value: v}
}

func sameResource(a, b api.Resource) bool {
	return a.Key == b.Key && a.Fails == b.Fails && value.Same(a.Value, b.Value)
}

func sameResources(a, b []api.Resource) bool { return slices.EqualFunc(a, b, sameResource) }

// short is the beginning of what fmt tells of it.
func short(v any) string { return fmt.Sprintf("%.300s", fmt.Sprint(v)) }

// asks: is the answer that, of each of these keys that are asked for one behind the other?
func asks(t testing.TB, s *store.Store, want bool, keys ...string) {
	t.Helper()
	for _, key := range keys {
		if got, errno := s.Ask(key); got != want || errno != api.OK {
			t.Errorf("Ask of %.20q: %v, error %d, want %v", key, got, errno, want)
		}
	}
}

// asksNone: is that no key, and the store behind it what it was?
func asksNone(t *testing.T, s *store.Store, key string) {
	t.Helper()
	before := all(s)
	if got, errno := s.Ask(key); got || errno != api.ErrArg {
		t.Errorf("Ask of %.20q: %v, error %d, want ErrArg", key, got, errno)
	}
	if behind := all(s); !behind.same(before) {
		t.Errorf("Ask of %.20q has changed %s to %s", key, short(before), short(behind))
	}
}

// settles: do all of these come, one behind the other?
func settles(t testing.TB, s *store.Store, l ...api.Resource) {
	t.Helper()
	for _, r := range l {
		if errno := s.Settle(r); errno != api.OK {
			t.Errorf("Settle of %s: error %d", short(r), errno)
		}
	}
}

// refuses: is the answer of each of these that error, and the store behind it what it was?
func refuses(t *testing.T, s *store.Store, want api.Errno, l ...api.Resource) {
	t.Helper()
	before := all(s)
	for _, r := range l {
		if errno := s.Settle(r); errno != want {
			t.Errorf("Settle of %s: error %d, want %d", short(r), errno, want)
		}
		if behind := all(s); !behind.same(before) {
			t.Errorf("Settle of %s has changed %s to %s", short(r), short(before), short(behind))
		}
	}
}

// waits: are just these keys waited for?
func waits(t testing.TB, s *store.Store, want ...string) {
	t.Helper()
	if got := s.Asked(); !slices.Equal(got, want) {
		t.Errorf("Asked is %.20q, want %.20q", got, want)
	}
}

// came: have just these resources come?
func came(t testing.TB, s *store.Store, want ...api.Resource) {
	t.Helper()
	if got := s.All(); !sameResources(got, want) {
		t.Errorf("All is %s, want %s", short(got), short(want))
	}
	for _, r := range want {
		if got, ok := s.Get(r.Key); !ok || !sameResource(got, r) {
			t.Errorf("Get of %.20q: %s, %v, want %s", r.Key, short(got), ok, short(r))
		}
	}
}

// getsNone: has nothing come of these keys?
func getsNone(t testing.TB, s *store.Store, keys ...string) {
	t.Helper()
	for _, key := range keys {
		if got, ok := s.Get(key); ok || !sameResource(got, api.Resource{}) {
			t.Errorf("Get of %.20q: %s, %v, want none", key, short(got), ok)
		}
	}
}

// told is all that a store tells.
type told struct {
	asked []string
	all   []api.Resource
}

func all(s *store.Store) told { return told{s.Asked(), s.All()} }

func (a told) same(b told) bool {
	return slices.Equal(a.asked, b.asked) && sameResources(a.all, b.all)
}

// turned is the list in another order: n items, each one step items behind the one ahead of it. The step and n have no divisor in common.
func turned[T any](l []T, step int) []T {
	var turned []T
	for i := range l {
		turned = append(turned, l[i*step%len(l)])
	}
	return turned
}

func reversed[T any](l []T) []T {
	l = slices.Clone(l)
	slices.Reverse(l)
	return l
}
