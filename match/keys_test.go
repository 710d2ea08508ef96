package match_test

import (
	"fmt"
	"strings"
	"testing"

	"tapestry/api"
)

// put is a list of n other children with these among them, each at its place.
func put(n int, at map[int]api.Child) []api.Child {
	l := make([]api.Child, n)
	for i := range l {
		l[i] = host(fmt.Sprint("i:", i), "other")
	}
	for i, c := range at {
		l[i] = c
	}
	return l
}

// P8.1: keys of any bytes, an empty one, too: the same key is the same bytes.
func TestKeys(t *testing.T) {
	keys := []string{"", " ", "k:", "i:", "k:x", "i:0", "x", "k", "K:x", "k:X", "k:x ", " k:x", "k:x\x00", "\x00", "\xff", "\xff\xfe", "k:\n", "k:é", "k:e\u0301", "i:1", "i:01", "i:10", "k:1", "1",
		strings.Repeat("x", 4096), strings.Repeat("x", 4097), strings.Repeat("x", 4095) + "y", strings.Repeat("x", 70000)}
	var all []api.Child
	for _, key := range keys {
		all = append(all, host(key, "p"))
		comes(t, of(host(key, "p")), of(host(key, "p")), 0)
		comes(t, of(host(key, "p")), of(host(key, "q")), -1)
		comes(t, of(host(key, "p"), host(key, "q")), of(host(key, "q"), host(key, "p"), host(key, "p")), -1, 0, -1)
	}
	for i := range keys {
		for j := range keys {
			want := -1
			if i == j {
				want = 0
			}
			comes(t, of(all[i]), of(all[j]), want)
		}
	}
	got := held(t, all, turned(all))
	for i, place := range got {
		if place != len(all)-1-i {
			t.Errorf("%q goes on as %d", keys[len(all)-1-i], place)
		}
	}
}

// P8.1: a key that is empty is a key as any other.
func TestEmptyKey(t *testing.T) {
	p, q := host("", "p"), host("", "q")
	x := host("k:x", "p")
	comes(t, of(p), of(p, p), 0, -1)
	comes(t, of(p, p), of(p), 0)
	comes(t, of(p, p), of(p, p), 0, -1)
	comes(t, of(q, p), of(p, q), -1, 0)
	comes(t, of(x, p), of(p, x), 1, 0)
	comes(t, of(x), of(p), -1)
	comes(t, of(p), of(x), -1)
	comes(t, of(host("k:", "p"), p), of(p, host("k:", "p")), 1, 0)
}

// P8.1: a key twice and three times among the old ones: the first one holds it, the others never go on.
func TestKeyTwiceOld(t *testing.T) {
	p, q := host("k:x", "p"), host("k:x", "q")
	comes(t, of(p, p), of(p), 0)
	comes(t, of(p, q), of(p), 0)
	comes(t, of(q, p), of(p), -1)
	comes(t, of(q, p), of(q), 0)
	comes(t, of(p, p, p), of(p), 0)
	comes(t, of(p, q, q), of(q), -1)
	comes(t, of(q, p, p), of(p), -1)
	comes(t, of(q, p, q), of(q), 0)
	comes(t, of(q, q, p), of(p), -1)
	for _, at := range [][3]int{{0, 1, 2}, {0, 1, 999}, {0, 500, 999}, {7, 8, 9}, {1, 100, 101}, {997, 998, 999}} {
		old := put(1000, map[int]api.Child{at[0]: p, at[1]: p})
		comes(t, old, of(p), at[0])
		comes(t, old, of(q), -1)
		comes(t, put(1000, map[int]api.Child{at[0]: q, at[1]: p}), of(p), -1)
		comes(t, put(1000, map[int]api.Child{at[0]: p, at[1]: q, at[2]: p}), of(p), at[0])
		comes(t, put(1000, map[int]api.Child{at[0]: q, at[1]: p, at[2]: p}), of(p), -1)
		comes(t, put(1000, map[int]api.Child{at[0]: q, at[1]: q, at[2]: p}), of(p), -1)
	}
}

// P8.1: a key twice and three times among the new ones: the first one that is alike is what the old one goes on as.
func TestKeyTwiceNew(t *testing.T) {
	p, q := host("k:x", "p"), host("k:x", "q")
	comes(t, of(p), of(p, p), 0, -1)
	comes(t, of(p), of(p, q), 0, -1)
	comes(t, of(p), of(q, p), -1, 0)
	comes(t, of(p), of(q, q), -1, -1)
	comes(t, of(p), of(p, p, p), 0, -1, -1)
	comes(t, of(p), of(q, p, p), -1, 0, -1)
	comes(t, of(p), of(p, q, p), 0, -1, -1)
	comes(t, of(p), of(q, q, p), -1, -1, 0)
	comes(t, of(p), of(q, p, q), -1, 0, -1)
	for _, at := range [][3]int{{0, 1, 2}, {0, 1, 999}, {0, 500, 999}, {7, 8, 9}, {1, 100, 101}, {997, 998, 999}} {
		goesOn(t, of(p), put(1000, map[int]api.Child{at[0]: p, at[1]: p}), at[0])
		goesOn(t, of(p), put(1000, map[int]api.Child{at[0]: q, at[1]: p}), at[1])
		goesOn(t, of(p), put(1000, map[int]api.Child{at[0]: p, at[1]: p, at[2]: p}), at[0])
		goesOn(t, of(p), put(1000, map[int]api.Child{at[0]: q, at[1]: p, at[2]: p}), at[1])
		goesOn(t, of(p), put(1000, map[int]api.Child{at[0]: q, at[1]: q, at[2]: p}), at[2])
		goesOn(t, of(p), put(1000, map[int]api.Child{at[0]: q, at[1]: q, at[2]: q}), -1)
	}
}

// goesOn: does the one old child go on as the new one of that place alone (-1: as none)?
func goesOn(t *testing.T, old, next []api.Child, at int) {
	t.Helper()
	for i, place := range held(t, old, next) {
		if (place == 0) != (i == at) {
			t.Errorf("%d goes on as the new one %d, want it as %d", place, i, at)
		}
	}
}

// P8.1: a key several times in both: the first old one goes on as the first new one that is alike, and no other pair comes.
func TestKeyTwiceInBoth(t *testing.T) {
	p, q := host("k:x", "p"), host("k:x", "q")
	comes(t, of(p, p), of(p, p), 0, -1)
	comes(t, of(p, q), of(p, q), 0, -1)
	comes(t, of(p, q), of(q, p), -1, 0)
	comes(t, of(p, q), of(q, q), -1, -1)
	comes(t, of(q, p), of(p, p), -1, -1)
	comes(t, of(p, p, p), of(p, p, p), 0, -1, -1)
	comes(t, of(p, q, p), of(q, p, q), -1, 0, -1)
	comes(t, of(q, p, p), of(p, p, q), -1, -1, 0)
	comes(t, of(p, p), of(p, p, p), 0, -1, -1)
	comes(t, of(p, p, p), of(p, p), 0, -1)
	for _, first := range []int{0, 1, 400} {
		for _, gap := range []int{1, 2, 300} {
			old := put(1100, map[int]api.Child{first: p, first + gap: p, first + 2*gap: q})
			next := put(1100, map[int]api.Child{first + gap: q, first + 2*gap: p, first + 2*gap + 1: p})
			got := held(t, old, next)
			if got[first+gap] != -1 || got[first+2*gap] != first || got[first+2*gap+1] != -1 {
				t.Errorf("%d and %d: %v", first, gap, got[first:first+2*gap+2])
			}
		}
	}
}

// P8.1: several keys, each more than once, mixed: none is taken away by another.
func TestSeveralKeys(t *testing.T) {
	x, y, z := host("k:x", "p"), host("k:y", "p"), host("i:2", "p")
	comes(t, of(x, y, x, z, y), of(y, y, z, x, x, z), 1, -1, 3, 0, -1, -1)
	comes(t, of(x, x, y, y), of(y, x, y, x), 2, 0, -1, -1)
	comes(t, of(host("k:x", "q"), x, y), of(x, y, host("k:x", "q"), y), -1, 2, 0, -1)
}

// P8.1: however many new ones ask for a child, it goes on once.
func TestOnce(t *testing.T) {
	for _, n := range []int{2, 3, 10, 4096} {
		next := make([]api.Child, n)
		for i := range next {
			next[i] = host("k:x", "p")
		}
		old := of(host("k:y", "p"), host("k:x", "p"), host("k:x", "p"))
		for i, place := range held(t, old, next) {
			if i == 0 && place != 1 || i > 0 && place != -1 {
				t.Fatalf("the %dth of %d: %d", i, n, place)
			}
		}
		for i, place := range held(t, next, old) {
			if want := []int{-1, 0, -1}[i]; place != want {
				t.Errorf("of %d, %d: %d, want %d", n, i, place, want)
			}
		}
	}
}
