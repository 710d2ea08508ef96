package match_test

import (
	"fmt"
	"reflect"
	"slices"
	"sync"
	"testing"

	"tapestry/api"
	"tapestry/match"
)

// roomy is a list with spare room that is filled, the values of its children likewise.
func roomy(l []api.Child) []api.Child {
	all := append(slices.Clone(l), host("k:spare", "spare"), host("k:x", "p"))
	for i := range all {
		v := &all[i].Value
		kids := append(slices.Clone(v.L), api.Value{Kind: api.Text, S: "kid"}, api.Value{Kind: api.Text, S: "spare"})
		fields := append(slices.Clone(v.F), api.Field{Name: "a"}, api.Field{Name: "spare"})
		v.L, v.F = kids[:len(v.L)+1], fields[:len(v.F)+1]
	}
	return all[:len(l)]
}

// whole is a copy of a list, with what stands in its spare room and in that of its values.
func whole(l []api.Child) []api.Child {
	all := slices.Clone(l[:cap(l)])
	for i := range all {
		v := &all[i].Value
		v.L, v.F = slices.Clone(v.L[:cap(v.L)]), slices.Clone(v.F[:cap(v.F)])
	}
	return all
}

// spoil overwrites an answer, its spare room too.
func spoil(l []int) {
	for i := range l[:cap(l)] {
		l[:cap(l)][i] = -7
	}
}

// cases are pairs of lists of which each way to go on, or not, comes.
func cases() map[string][2][]api.Child {
	p, q, y := host("k:x", "p"), host("k:x", "q"), host("k:y", "p")
	return map[string][2][]api.Child{
		"nothing":        {roomy(nil), roomy(nil)},
		"none of old":    {roomy(nil), roomy(of(p, y))},
		"none of new":    {roomy(of(p, y)), roomy(nil)},
		"the same":       {roomy(of(p, y)), roomy(of(p, y))},
		"moved":          {roomy(of(p, y)), roomy(of(y, p))},
		"unlike":         {roomy(of(p, y)), roomy(of(q, y))},
		"keys again":     {roomy(of(p, p, q, y)), roomy(of(q, p, p, y, y))},
		"as many as can": {roomy(long(api.MaxKids)), roomy(turned(long(api.MaxKids)))},
	}
}

// R4: what is handed in is left as it was, its spare room too.
func TestLeftAsItWas(t *testing.T) {
	for why, c := range cases() {
		old, next := whole(c[0]), whole(c[1])
		got := match.Match(c[0], c[1])
		if !slices.Equal(got, reading(c[0], c[1])) {
			t.Errorf("%s: %s", why, short(got))
		}
		if !reflect.DeepEqual(whole(c[0]), old) || !reflect.DeepEqual(whole(c[1]), next) {
			t.Errorf("%s: what was handed in is another one", why)
		}
		spoil(got)
		if !reflect.DeepEqual(whole(c[0]), old) || !reflect.DeepEqual(whole(c[1]), next) {
			t.Errorf("%s: what was handed in is changed by way of the answer", why)
		}
	}
}

// R4: an answer is memory of its own: neither another answer nor what was handed in changes it.
func TestAnswerOfItsOwn(t *testing.T) {
	for why, c := range cases() {
		want := reading(c[0], c[1])
		first, second := match.Match(c[0], c[1]), match.Match(c[0], c[1])
		spoil(first)
		if !slices.Equal(second, want) {
			t.Errorf("%s: spoilt by another answer: %s", why, short(second))
		}
		if third := match.Match(c[0], c[1]); !slices.Equal(third, want) {
			t.Errorf("%s: spoilt by an answer ahead: %s", why, short(third))
		}
		clear(c[0][:cap(c[0])])
		clear(c[1][:cap(c[1])])
		if !slices.Equal(second, want) {
			t.Errorf("%s: spoilt by what was handed in: %s", why, short(second))
		}
	}
}

// R4: one list as both, and lists that share memory.
func TestSharedLists(t *testing.T) {
	p, q, y := host("k:x", "p"), host("k:x", "q"), host("k:y", "p")
	l := roomy(of(p, y, q, p, y))
	before := whole(l)
	for i := range len(l) + 1 {
		for j := range len(l) + 1 {
			held(t, l[:i], l[j:])
			held(t, l[j:], l[:i])
			held(t, l[:i], l[:j])
			held(t, l[i:], l[j:])
		}
	}
	if !reflect.DeepEqual(whole(l), before) {
		t.Error("what was handed in is another one")
	}
}

// R4: lists that are nil are as empty ones, within children, too.
func TestEmptyLists(t *testing.T) {
	bare, full := host("k:x", "p"), host("k:x", "p")
	full.Value.L, full.Value.F = []api.Value{}, make([]api.Field, 0, 3)
	comes(t, of(bare), of(full), 0)
	comes(t, of(full), of(bare), 0)
}

// R5: nothing is kept from one call to the next.
func TestCallsBehindOneAnother(t *testing.T) {
	all := lists(2, sorts([]string{"k:x", "k:y"}, []string{"p", "q"}))
	for i, old := range all {
		for j, next := range all {
			want := reading(old, next)
			for range 2 {
				if got := match.Match(old, next); !slices.Equal(got, want) {
					t.Fatalf("%s to %s: %v, want %v", tell(old), tell(next), got, want)
				}
				match.Match(all[(i+j)%len(all)], all[(i*j)%len(all)])
			}
		}
	}
}

// R5: nor is anything shared by calls at once.
func TestCallsAtOnce(t *testing.T) {
	all := lists(2, sorts([]string{"k:x", "k:y"}, []string{"p", "q"}))
	var wait sync.WaitGroup
	wrong := make([]string, len(all))
	for i, old := range all {
		wait.Add(1)
		go func() {
			defer wait.Done()
			for _, next := range all {
				if got, want := match.Match(old, next), reading(old, next); !slices.Equal(got, want) {
					wrong[i] = fmt.Sprint(tell(old), " to ", tell(next), ": ", got, ", want ", want)
				}
			}
		}()
	}
	wait.Wait()
	for _, w := range wrong {
		if w != "" {
			t.Error(w)
		}
	}
}
