package store_test

import (
	"slices"
	"sync"
	"testing"

	"tapestry/api"
	"tapestry/store"
	"tapestry/value"
)

// rooms counts by how many lists each place of memory is reached, spare room too.
type rooms map[any]int

func (r rooms) texts(l []string) {
	l = l[:cap(l)]
	for i := range l {
		r[&l[i]]++
	}
}

func (r rooms) resources(l []api.Resource) {
	for i := range l[:cap(l)] {
		r[&l[:cap(l)][i]]++
	}
	for i := range l {
		r.value(l[i].Value)
	}
}

func (r rooms) value(v api.Value) {
	l, f := v.L[:cap(v.L)], v.F[:cap(v.F)]
	for i := range l {
		r[&l[i]]++
	}
	for i := range f {
		r[&f[i]]++
	}
	for i := range v.L {
		r.value(v.L[i])
	}
	for i := range v.F {
		r.value(v.F[i].Value)
	}
}

// alone: is no place of memory reached by two lists?
func (r rooms) alone(t *testing.T) {
	t.Helper()
	for place, n := range r {
		if n > 1 {
			t.Errorf("a %T is reached %d times", place, n)
		}
	}
}

// spare is the list with room behind its end, which is filled.
func spare[T any](x T, l ...T) []T { return append(l, x, x)[:len(l)] }

// roomy are resources whose values have spare room, empty lists with it too, and no list twice.
func roomy() []api.Resource {
	aside, no := field("aside", words("aside")), words("aside")
	empty := func(v api.Value) api.Value {
		v.L, v.F = spare(no), spare(aside)
		return v
	}
	inner := func() api.Value {
		return api.Value{Kind: api.List, L: spare(no, number(1), empty(words("a"))), F: spare(aside)}
	}
	fields := func() []api.Field { return spare(aside, field("a", inner()), field("b", empty(truth(1)))) }
	return []api.Resource{
		good("list", api.Value{Kind: api.List, L: spare(no, inner(), inner()), F: spare(aside)}),
		bad("record", api.Value{Kind: api.Record, L: spare(no), F: fields()}),
		good("element", api.Value{Kind: api.Elem, Elem: api.ElHost, S: "p", HasKey: true, Key: "k", L: spare(no, inner()), F: fields()}),
		bad("deed", api.Value{Kind: api.Deed, N: 3, S: "App#0", L: spare(no), F: fields()}),
		good("text", empty(words("x"))),
		good("none", empty(none())),
	}
}

// inFull is the value with all spare room as a part of its lists.
func inFull(v api.Value) api.Value {
	v.L, v.F = slices.Clone(v.L[:cap(v.L)]), slices.Clone(v.F[:cap(v.F)])
	for i := range v.L {
		v.L[i] = inFull(v.L[i])
	}
	for i := range v.F {
		v.F[i].Value = inFull(v.F[i].Value)
	}
	return v
}

// settled is a store to which these came, and that waits for one and another.
func settled(t testing.TB, l []api.Resource) *store.Store {
	t.Helper()
	s := store.New()
	for _, r := range l {
		asks(t, s, true, r.Key)
	}
	asks(t, s, true, "one", "another")
	settles(t, s, l...)
	return s
}

// wanted is what such a store tells.
func wanted(t testing.TB, s *store.Store) {
	t.Helper()
	l := roomy()
	waits(t, s, "another", "one")
	came(t, s, l[3], l[2], l[0], l[5], l[1], l[4])
}

// spoil overwrites a value from within, spare room too.
func spoil(v api.Value) {
	l, f := v.L[:cap(v.L)], v.F[:cap(v.F)]
	for i := range l {
		if i < len(v.L) {
			spoil(l[i])
		}
		l[i] = words("spoilt")
	}
	for i := range f {
		if i < len(v.F) {
			spoil(f[i].Value)
		}
		f[i] = field("spoilt", words("spoilt"))
	}
}

func spoilAll(l []api.Resource) {
	for i := range l {
		spoil(l[i].Value)
	}
	for i := range l[:cap(l)] {
		l[:cap(l)][i] = bad("spoilt", words("spoilt"))
	}
}

// R4: no two lists of what is answered share memory, nor do two answers, nor answers and what was handed in.
func TestMemory(t *testing.T) {
	handed := roomy()
	s, other := settled(t, handed), settled(t, handed)
	wanted(t, s)
	r := rooms{}
	r.resources(handed)
	for range 2 {
		for _, s := range []*store.Store{s, other} {
			r.texts(s.Asked())
			r.resources(s.All())
			for _, h := range handed {
				got, _ := s.Get(h.Key)
				r.value(got.Value)
			}
		}
	}
	r.alone(t)
}

// R4: lists that share memory with one another are handed in; what is answered shares none.
func TestMemoryOfSharedLists(t *testing.T) {
	l := spare(words("aside"), number(1), list(number(2)), number(3))
	f := spare(field("aside", none()), field("a", list(l...)), field("b", list(l[1:]...)))
	v := list(list(l...), list(l[:1]...), list(l[1:]...), record(f...), deed(f[:1]...), element(api.ElHost, "p", f, l...))
	s := store.New()
	asks(t, s, true, "a", "b")
	settles(t, s, good("a", v), bad("b", v))
	came(t, s, good("a", v), bad("b", v))
	r := rooms{}
	for range 2 {
		r.resources(s.All())
		for _, key := range []string{"a", "b"} {
			got, _ := s.Get(key)
			r.value(got.Value)
		}
	}
	r.alone(t)
}

// R4: what a caller writes into answers changes none that comes later.
func TestSpoiltAnswers(t *testing.T) {
	s := settled(t, roomy())
	for range 3 {
		spoilAll(s.All())
		for _, r := range roomy() {
			got, _ := s.Get(r.Key)
			spoil(got.Value)
		}
		keys := s.Asked()
		for i := range keys[:cap(keys)] {
			keys[:cap(keys)][i] = "spoilt"
		}
		wanted(t, s)
	}
	// Nor does what is done later change answers.
	before, got := all(s), roomy()[0]
	asks(t, s, true, "a", "z")
	settles(t, s, good("one", number(1)), good("another", none()), good("a", words("a")))
	if l := roomy(); !sameResources(before.all, []api.Resource{l[3], l[2], l[0], l[5], l[1], l[4]}) || len(before.asked) != 2 || before.asked[1] != "one" {
		t.Error(short(before))
	}
	if now, ok := s.Get(got.Key); !ok || !sameResource(now, got) {
		t.Error(short(now))
	}
}

// R4: what is handed in is left as it was, and is not kept but by its content.
func TestHandedIn(t *testing.T) {
	handed := roomy()
	s := settled(t, handed)
	for _, r := range handed {
		if errno := s.Settle(r); errno != api.ErrGone {
			t.Errorf("%s: error %d", r.Key, errno)
		}
	}
	for i, r := range roomy() {
		if !sameResource(handed[i], r) || !value.Same(inFull(handed[i].Value), inFull(r.Value)) {
			t.Errorf("%s: what was handed in is changed", r.Key)
		}
	}
	spoilAll(handed)
	wanted(t, s)
}

// R4: what is refused is not kept either.
func TestHandedInAndRefused(t *testing.T) {
	s := store.New()
	asks(t, s, true, "k")
	v := list(number(1), truth(2))
	refuses(t, s, api.ErrArg, good("k", v))
	v.L[1] = truth(1)
	waits(t, s, "k")
	getsNone(t, s, "k")
	settles(t, s, good("k", v))
	v.L[0] = number(7)
	refuses(t, s, api.ErrGone, good("k", v))
	came(t, s, good("k", list(number(1), truth(1))))
}

// R5: stores at once, each by itself, share nothing.
func TestStoresAtOnce(t *testing.T) {
	handed := roomy()
	var wait sync.WaitGroup
	for range 16 {
		wait.Add(1)
		go func() {
			defer wait.Done()
			for range 20 {
				s := settled(t, handed)
				wanted(t, s)
				spoilAll(s.All())
				wanted(t, s)
			}
		}()
	}
	wait.Wait()
}
