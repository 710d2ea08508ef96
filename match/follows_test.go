package match_test

import (
	"slices"
	"strings"
	"testing"

	"tapestry/api"
	"tapestry/match"
)

// P8.1, P8.2: all pairs of short lists, keys twice and more among them.
func TestAllShortLists(t *testing.T) {
	t.Parallel()
	for _, c := range []struct {
		n    int
		some []api.Child
	}{
		{4, sorts([]string{"k:x", "k:y"}, []string{"p", "q"})},
		{3, sorts([]string{"", "k:x", "i:0"}, []string{"p", "q"})},
		{5, sorts([]string{"k:x"}, []string{"p", "q"})},
		{3, append(sorts([]string{"k:x"}, []string{"p"}), text("k:x", "p"), text("i:1", "p"), api.Child{Key: "k:x", Kind: api.ElComp, Name: "p"}, api.Child{}, host("i:1", ""))},
	} {
		all := lists(c.n, c.some)
		for _, old := range all {
			for _, next := range all {
				held(t, old, next)
			}
			if t.Failed() {
				t.FailNow()
			}
		}
	}
}

// apart: has no child of the list the key of another one?
func apart(l []api.Child) bool {
	for i := range l {
		for j := range i {
			if l[i].Key == l[j].Key {
				return false
			}
		}
	}
	return true
}

// pair is an old child with the new one that it goes on as; their keys tell them apart.
type pair struct{ key, old, next string }

// pairs of an answer, by rising keys.
func pairs(old, next []api.Child, got []int) []pair {
	var all []pair
	for i, place := range got {
		if place >= 0 {
			all = append(all, pair{next[i].Key, old[place].Key + "/" + old[place].Name, next[i].Key + "/" + next[i].Name})
		}
	}
	slices.SortFunc(all, func(a, b pair) int { return strings.Compare(a.key, b.key) })
	return all
}

// overTo are the pairs with old and new changed over.
func overTo(all []pair) []pair {
	all = slices.Clone(all)
	for i, p := range all {
		all[i] = pair{p.key, p.next, p.old}
	}
	return all
}

// keysApart are short lists in each of which no two have one key.
func keysApart() [][]api.Child {
	all := lists(3, append(sorts([]string{"k:x", "k:y", "i:0"}, []string{"p", "q"}), text("", "t")))
	return slices.DeleteFunc(all, func(l []api.Child) bool { return !apart(l) })
}

// P8.2: of lists with unlike keys the same pairs come out whatever the order of either list.
func TestOrderIsNoMatter(t *testing.T) {
	t.Parallel()
	all := keysApart()
	for _, old := range all {
		for _, next := range all {
			want := pairs(old, next, match.Match(old, next))
			for _, o := range orders(old) {
				for _, n := range orders(next) {
					if got := pairs(o, n, match.Match(o, n)); !slices.Equal(got, want) {
						t.Fatalf("%s to %s: %v; %s to %s: %v", tell(old), tell(next), want, tell(o), tell(n), got)
					}
				}
			}
		}
	}
}

// P8.2: matched the other way round, the same pairs come out, of lists with unlike keys.
func TestOtherWayRound(t *testing.T) {
	t.Parallel()
	all := keysApart()
	for _, old := range all {
		for _, next := range all {
			to, back := match.Match(old, next), match.Match(next, old)
			want, got := pairs(old, next, to), overTo(pairs(next, old, back))
			if !slices.Equal(got, want) {
				t.Fatalf("%s to %s: %v, the other way round %v", tell(old), tell(next), want, got)
			}
			for i, place := range to {
				if place >= 0 && back[place] != i {
					t.Fatalf("%s to %s: %v, the other way round %v", tell(old), tell(next), to, back)
				}
			}
		}
	}
}

// P8.2: a list of unlike keys, matched with itself, goes on each as itself; turned round, each from where it stood.
func TestWithItself(t *testing.T) {
	t.Parallel()
	for _, l := range append(keysApart(), long(100), long(api.MaxKids)) {
		for i, place := range match.Match(l, l) {
			if place != i {
				t.Errorf("%s with itself: %d goes on as %d", tell(l), place, i)
			}
		}
		for i, place := range match.Match(l, turned(l)) {
			if place != len(l)-1-i {
				t.Errorf("%s turned round: %d goes on as %d", tell(l), place, i)
			}
		}
	}
	// Where two have one key, the first one goes on alone.
	p := host("k:x", "p")
	comes(t, of(p, p), of(p, p), 0, -1)
}

// P8.2: what goes on as what does not hang on children of other keys, nor on those that stand behind.
func TestOthersAreNoMatter(t *testing.T) {
	t.Parallel()
	other := host("k:other", "p")
	each(3, sorts([]string{"k:x", ""}, []string{"p", "q"}), func(old []api.Child) {
		each(3, sorts([]string{"k:x", ""}, []string{"p", "q"}), func(next []api.Child) {
			want := match.Match(old, next)
			for i := range next {
				if got := match.Match(old, next[:i]); !slices.Equal(got, want[:i]) {
					t.Fatalf("%s to %s: %v, of the first %d: %v", tell(old), tell(next), want, i, got)
				}
			}
			with := append(slices.Clone(old), other)
			if got := match.Match(with, next); !slices.Equal(got, want) {
				t.Fatalf("%s to %s: %v, want %v", tell(with), tell(next), got, want)
			}
			if got := match.Match(append(of(other), old...), append(of(other), next...)); !slices.Equal(got[1:], further(want)) || got[0] != 0 {
				t.Fatalf("%s to %s with one more ahead: %v, want %v", tell(old), tell(next), got, further(want))
			}
		})
	})
}

// further is an answer whose places are each one further.
func further(l []int) []int {
	l = slices.Clone(l)
	for i, place := range l {
		if place >= 0 {
			l[i] = place + 1
		}
	}
	return l
}
