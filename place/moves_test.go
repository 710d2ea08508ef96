package place_test

import (
	"math"
	"slices"
	"testing"

	"tapestry/api"
	"tapestry/place"
)

// P9.1: of no places there is nothing to answer, whatever says that there are none.
func TestNoPlaces(t *testing.T) {
	for _, no := range [][]int{nil, {}, make([]int, 0, 3), row(5, 0)[:0]} {
		moves(t, no)
	}
}

// P9.1: one place: nothing is ahead of it.
func TestOnePlace(t *testing.T) {
	for _, p := range []int{0, 1, 2, 100, math.MaxInt32, math.MaxInt} {
		moves(t, row(p), false)
	}
	for _, p := range []int{-1, -2, -100, math.MinInt32, math.MinInt} {
		moves(t, row(p), true)
	}
}

// P9.1: only new ones are all placed; of those that are not new, and rise, none is.
func TestNewAndOld(t *testing.T) {
	moves(t, row(-1, -1, -1), true, true, true)
	moves(t, row(-3, -2, -1), true, true, true)
	moves(t, row(-1, -2, -3), true, true, true)
	moves(t, row(0, 1, 2, 3), false, false, false, false)
	moves(t, row(0, 2, 3, 9), false, false, false, false)
	moves(t, row(7, 8, 9), false, false, false)
}

// P9.1: places that fall: all but the first one are placed.
func TestFalling(t *testing.T) {
	moves(t, row(3, 2, 1, 0), false, true, true, true)
	moves(t, row(1, 0), false, true)
	moves(t, row(9, 4), false, true)
	moves(t, row(9, 4, 5, 6), false, true, true, true)
}

// P9.1: a place that is equal to the greatest one is not below it.
func TestEqual(t *testing.T) {
	moves(t, row(0, 0, 0), false, false, false)
	moves(t, row(4, 4), false, false)
	moves(t, row(2, 1, 2, 1), false, true, false, true)
	moves(t, row(0, 3, 3, 2, 2, 3, 4), false, false, false, true, true, false, false)
}

// P9.1: the greatest one ahead counts, not the one right ahead, nor one that was placed itself.
func TestGreatestAhead(t *testing.T) {
	moves(t, row(5, 1, 2, 3), false, true, true, true)
	moves(t, row(5, 1, 2, 5, 6), false, true, true, false, false)
	moves(t, row(0, 5, 1, 6, 2, 7), false, false, true, false, true, false)
	moves(t, row(1, 3, 0, 2, 4), false, false, true, true, false)
}

// P9.1: new ones between old ones are placed, and do not count for the greatest place.
func TestNewBetween(t *testing.T) {
	moves(t, row(-1, 0, 1), true, false, false)
	moves(t, row(0, -1, 1), false, true, false)
	moves(t, row(0, 1, -1), false, false, true)
	moves(t, row(-1, 1, -1, 0, -1), true, false, true, true, true)
	moves(t, row(2, -5, 1, -5, 2, 3), false, true, true, true, false, false)
	moves(t, row(0, math.MinInt, 0), false, true, false)
}

// P9.1: places far below 0 and far above the row's length.
func TestFarPlaces(t *testing.T) {
	moves(t, row(math.MinInt, math.MaxInt, math.MinInt, math.MaxInt-1, math.MaxInt, 0), true, false, true, true, false, true)
	moves(t, row(0, math.MaxInt, 1), false, false, true)
	moves(t, row(1<<40, 1<<40+1, 1<<40-1, 1<<32, -1<<40), false, false, true, true, true)
	moves(t, row(math.MinInt, math.MinInt+1, -1<<32, 1<<31, 1<<31-1), true, true, true, false, true)
}

// P9.1: all short rows of places, one answer for each.
func TestAllShortMoves(t *testing.T) {
	for _, c := range []struct {
		n    int
		some []int
	}{{6, row(-1, 0, 1, 2, 3)}, {4, row(math.MinInt, -2, -1, 0, 1, 2, 7, math.MaxInt-1, math.MaxInt)}} {
		each(c.n, c.some, func(from []int) {
			got, want := place.Moves(from), readMoves(from)
			if len(got) != len(from) || !slices.Equal(got, want) {
				t.Fatalf("%v: %v, want %v", from, got, want)
			}
		})
	}
}

// P9.1: as many as there may be, and more, in order and turned round.
func TestLongMoves(t *testing.T) {
	for _, n := range []int{api.MaxKids - 1, api.MaxKids, api.MaxKids + 1, 300000} {
		l := upTo(n)
		if i := slices.Index(place.Moves(l), true); i >= 0 {
			t.Errorf("of %d the place %d is placed", n, i)
		}
		got := place.Moves(turned(l))
		if len(got) != n || got[0] || slices.Contains(got[1:], false) {
			t.Errorf("of %d turned round: %s", n, short(got))
		}
		for i := range l {
			l[i] = -l[i]
		}
		if got := place.Moves(l); len(got) != n || slices.Contains(got, false) {
			t.Errorf("of %d new ones: %s", n, short(got))
		}
	}
}
