package match_test

import (
	"fmt"
	"slices"
	"testing"

	"tapestry/api"
	"tapestry/match"
)

// long is a list of n children of several kinds, no two of one key.
func long(n int) []api.Child {
	l := make([]api.Child, n)
	for i := range l {
		switch key := fmt.Sprint(i); i % 4 {
		case 0:
			l[i] = text("i:"+key, key)
		case 1:
			l[i] = host("k:"+key, "li")
		case 2:
			l[i] = api.Child{Key: "k:" + key, Kind: api.ElComp, Name: "Row"}
		default:
			l[i] = host("i:"+key, "p")
		}
	}
	return l
}

// P8.1: just as many children as there may be, and lists that are longer.
func TestMaxKids(t *testing.T) {
	t.Parallel()
	for _, n := range []int{api.MaxKids - 1, api.MaxKids, api.MaxKids + 1, 2*api.MaxKids + 1, 100000} {
		l := long(n)
		got := match.Match(l, turned(l))
		follows(t, l, turned(l), got)
		for i, place := range got {
			if place != n-1-i {
				t.Fatalf("of %d the new one %d: %d", n, i, place)
			}
		}
		// The last one, behind all others, and one that was none.
		next := append(slices.Clone(l), l[n-1], host("k:new", "p"))
		next[0] = host(l[0].Key, "div")
		got = match.Match(l, next)
		if len(got) != n+2 || got[0] != -1 || got[1] != 1 || got[n-1] != n-1 || got[n] != -1 || got[n+1] != -1 {
			t.Errorf("of %d: %d numbers, %v", n, len(got), got[n-2:])
		}
	}
}

// P8.1: lists of unlike lengths, short ones with long ones.
func TestUnlikeLengths(t *testing.T) {
	t.Parallel()
	for _, n := range []int{0, 1, 2, 100, api.MaxKids} {
		for _, m := range []int{0, 1, 3, 101, api.MaxKids} {
			got := held(t, long(n), long(m))
			for i, place := range got {
				if i < n && place != i || i >= n && place != -1 {
					t.Fatalf("%d to %d: the new one %d: %d", n, m, i, place)
				}
			}
		}
	}
	l := long(api.MaxKids)
	for _, i := range []int{0, 1, 2048, api.MaxKids - 1} {
		comes(t, l, l[i:i+1], i)
		goesOn(t, l[i:i+1], l, i)
	}
}

// row of numbers, the same one each time.
type row uint32

// next number of the row, below n.
func (r *row) next(n int) int {
	*r = *r*1664525 + 1013904223
	return int(*r>>8) % n
}

// P8.1: long lists with keys that come again and again, among alike and unlike ones, by a row of numbers that stays the same.
func TestManyOfFewKeys(t *testing.T) {
	t.Parallel()
	numbers := row(8)
	for _, keys := range []int{1, 2, 5, 40, 1000, 5000} {
		some := func(n int) []api.Child {
			l := make([]api.Child, n)
			for i := range l {
				l[i] = host(fmt.Sprint("k:", numbers.next(keys)), []string{"p", "p", "q"}[numbers.next(3)])
			}
			return l
		}
		for range 4 {
			held(t, some(numbers.next(1500)), some(numbers.next(1500)))
		}
	}
}

// R1: a call ends soon, also where all have one key, alike or not.
func TestEndsSoon(t *testing.T) {
	t.Parallel()
	const n = 300000
	old, next, unlike := make([]api.Child, n), make([]api.Child, n), make([]api.Child, n)
	for i := range n {
		old[i], next[i], unlike[i] = host("k:x", "p"), host("k:x", "p"), host("k:x", "q")
	}
	for i, place := range match.Match(old, next) {
		if i == 0 && place != 0 || i > 0 && place != -1 {
			t.Fatalf("the new one %d: %d", i, place)
		}
	}
	for i, place := range match.Match(old, unlike) {
		if place != -1 {
			t.Fatalf("the unlike one %d: %d", i, place)
		}
	}
}

// R1: values that lie deep within one another, and children that may not be.
func TestAnyChild(t *testing.T) {
	v := api.Value{Kind: api.Int, N: 1}
	for range 1<<16 - 8 {
		v = api.Value{Kind: api.Elem, Elem: api.ElHost, S: "p", L: []api.Value{v}}
	}
	deep := api.Child{Key: "k:x", Kind: api.ElHost, Name: "p", Value: v}
	comes(t, of(deep), of(deep, host("k:x", "p")), 0, -1)
	comes(t, of(host("k:x", "p")), of(deep), 0)
	for _, k := range kinds() {
		for _, kind := range []api.Kind{0, 1, 7, 8, 255} {
			odd := api.Child{Key: "\xff\x00", Kind: k, Name: "\xfe", Value: api.Value{Kind: kind, N: -1 << 63, S: "\xff", Elem: 255, HasKey: true, Key: "\x80", L: make([]api.Value, 3), F: make([]api.Field, 3)}}
			comes(t, of(odd), of(odd, odd), 0, -1)
			comes(t, of(odd, odd), of(odd), 0)
		}
	}
}
