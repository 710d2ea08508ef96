package place_test

import (
	"math"
	"slices"
	"testing"

	"tapestry/place"
)

// P9.2: rows that are empty on either side, and on both, whatever says so.
func TestEmptyRows(t *testing.T) {
	for _, no := range [][]int{nil, {}, make([]int, 0, 3), row(5, 6)[:0]} {
		steps(t, no, no)
		steps(t, nil, no)
		steps(t, no, nil)
		steps(t, row(1), no)
		steps(t, row(3, 1, 2), no)
		steps(t, no, row(1), at(1, 0))
		steps(t, no, row(3, 1, 2), at(3, 0), at(1, 0), at(2, 0))
	}
}

// P9.2: equal rows, and rows of which the next one is the old one without some, need no step.
func TestNoStep(t *testing.T) {
	steps(t, row(7), row(7))
	steps(t, row(4, 2, 9, 1), row(4, 2, 9, 1))
	steps(t, row(4, 2, 9, 1), row(2, 9, 1))
	steps(t, row(4, 2, 9, 1), row(4, 9, 1))
	steps(t, row(4, 2, 9, 1), row(4, 2, 9))
	steps(t, row(4, 2, 9, 1), row(4, 1))
	steps(t, row(4, 2, 9, 1), row(9))
}

// P9.2: the old row has some that the next one has not: these have gone, no step tells of them.
func TestGone(t *testing.T) {
	steps(t, row(1, 2, 3), row(3, 1), at(1, 0))
	steps(t, row(1, 2, 3), row(3, 2), at(2, 0))
	steps(t, row(8, 1, 9, 2), row(2, 5, 1), at(5, 0), at(1, 0))
	steps(t, row(8, 1, 9, 2), row(5, 1, 6, 2, 7), at(5, 1), at(6, 2), at(7, 0))
}

// P9.2: turned round; the first one to the end; the last one to the front.
func TestTurnedAndMoved(t *testing.T) {
	steps(t, row(1, 2, 3, 4), row(4, 3, 2, 1), at(3, 0), at(2, 0), at(1, 0))
	steps(t, row(1, 2, 3, 4), row(2, 3, 4, 1), at(1, 0))
	steps(t, row(1, 2, 3, 4), row(4, 1, 2, 3), at(1, 0), at(2, 0), at(3, 0))
	steps(t, row(1, 2, 3, 4), row(2, 1, 3, 4), at(1, 3))
	steps(t, row(1, 2, 3, 4), row(1, 2, 4, 3), at(3, 0))
	steps(t, row(1, 2, 3, 4), row(1, 3, 2, 4), at(2, 4))
	steps(t, row(4, 3, 2, 1), row(1, 2, 3, 4), at(2, 0), at(3, 0), at(4, 0))
}

// P9.2: rows that share nothing: each number of the next one is placed at the end.
func TestSharedNothing(t *testing.T) {
	steps(t, row(1, 2, 3), row(4, 5, 6), at(4, 0), at(5, 0), at(6, 0))
	steps(t, row(1, 2, 3), row(6, 5), at(6, 0), at(5, 0))
	steps(t, row(1), row(2), at(2, 0))
}

// P9.2: ahead of which one: the next one that is not placed, whatever stands between; 0, if none is.
func TestBefore(t *testing.T) {
	// Several placed ones behind one another, all of them ahead of the same one.
	steps(t, row(1, 2), row(7, 8, 9, 1, 2), at(7, 1), at(8, 1), at(9, 1))
	steps(t, row(1, 2), row(1, 7, 8, 9, 2), at(7, 2), at(8, 2), at(9, 2))
	steps(t, row(1, 2), row(1, 2, 7, 8, 9), at(7, 0), at(8, 0), at(9, 0))
	steps(t, row(1, 2), row(7, 1, 8, 2, 9), at(7, 1), at(8, 2), at(9, 0))
	// A new one ahead of one that is moved: not that one, but the one that stays behind it.
	steps(t, row(1, 2, 3), row(2, 9, 1, 3), at(9, 3), at(1, 3))
	steps(t, row(1, 2, 3), row(2, 1, 9, 3), at(1, 3), at(9, 3))
	steps(t, row(1, 2, 3), row(3, 9, 1, 2), at(9, 0), at(1, 0), at(2, 0))
	// One that stays ahead of all is no number to stand ahead of.
	steps(t, row(1, 2, 3), row(3, 9), at(9, 0))
	steps(t, row(5, 3), row(5, 9, 8, 3, 7), at(9, 3), at(8, 3), at(7, 0))
	steps(t, row(1, 2, 3, 4, 5), row(2, 9, 1, 4, 8, 3, 7, 5, 6), at(9, 4), at(1, 4), at(8, 5), at(3, 5), at(7, 5), at(6, 0))
}

// P9.2: of a number that stands in the old row twice and more the first place counts.
func TestTwiceInOld(t *testing.T) {
	steps(t, row(1, 2, 1), row(1, 2))
	steps(t, row(1, 2, 1), row(2, 1), at(1, 0))
	steps(t, row(2, 1, 2), row(1, 2), at(2, 0))
	steps(t, row(1, 1, 1, 2, 2, 1), row(1, 2))
	steps(t, row(1, 1, 1), row(1))
	steps(t, row(1, 1, 1), row(2), at(2, 0))
	steps(t, row(3, 1, 2, 1, 3), row(1, 2, 3), at(3, 0))
}

// P9.2: of a number that stands in the next row twice and more the others are passed over: no step, and none stands ahead of them.
func TestTwiceInNext(t *testing.T) {
	steps(t, row(1, 2), row(1, 2, 1))
	steps(t, row(1, 2), row(2, 1, 2), at(1, 0))
	steps(t, row(1), row(1, 1, 1))
	steps(t, nil, row(1, 1, 1), at(1, 0))
	steps(t, nil, row(1, 2, 1, 2), at(1, 0), at(2, 0))
	steps(t, row(1), row(1, 9, 1), at(9, 0))
	steps(t, row(1, 2), row(1, 9, 1, 2), at(9, 2))
	steps(t, row(1, 2), row(9, 1, 9, 2), at(9, 1))
	steps(t, row(1, 2), row(1, 2, 9, 1, 2, 9), at(9, 0))
	steps(t, row(1, 2, 3), row(2, 9, 2, 1, 2, 3), at(9, 3), at(1, 3))
}

// P9.2: twice in both.
func TestTwiceInBoth(t *testing.T) {
	steps(t, row(1, 1), row(1, 1))
	steps(t, row(1, 2, 1), row(1, 2, 1))
	steps(t, row(1, 2, 1), row(2, 1, 2), at(1, 0))
	steps(t, row(2, 1, 1, 2), row(1, 2, 2, 1), at(2, 0))
	steps(t, row(1, 2, 2, 3), row(2, 2, 1, 1, 9, 9, 3, 3), at(1, 3), at(9, 3))
}

// P9.2: numbers that are 0 and below 0 are as any others.
func TestAnyNumbers(t *testing.T) {
	steps(t, row(0, -1, -2), row(-2, -1, 0), at(-1, 0), at(0, 0))
	steps(t, row(-1, -2), row(-1, 5, -2), at(5, -2))
	steps(t, row(-1, -2), row(-1, 0, -2), at(0, -2))
	steps(t, row(0), row(0))
	steps(t, nil, row(0), at(0, 0))
	steps(t, row(0), row(5, 0), at(5, 0))
	steps(t, row(0, 1), row(1, 0), at(0, 0))
	steps(t, row(0, 3), row(5, 0, 3), at(5, 0))
	steps(t, row(0, 3), row(0, 5, 3, 6), at(5, 3), at(6, 0))
	steps(t, row(0, 0, -1), row(-1, 0, 0), at(0, 0))
	steps(t, row(math.MinInt, math.MaxInt), row(math.MaxInt, 7, math.MinInt), at(7, 0), at(math.MinInt, 0))
	steps(t, row(math.MinInt, math.MaxInt), row(7, math.MinInt, 8, math.MaxInt), at(7, math.MinInt), at(8, math.MaxInt))
	steps(t, row(1<<40, 1<<40+1), row(1<<40+1, 1<<40, 1), at(1<<40, 0), at(1, 0))
}

// P9.2: all pairs of short rows, numbers twice and more, 0 and below 0 among them.
func TestAllShortRows(t *testing.T) {
	t.Parallel()
	for _, c := range []struct {
		n    int
		some []int
	}{{5, row(1, 2, 3)}, {4, row(1, 2, 3, 4)}, {4, row(-1, 0, 1)}, {3, row(math.MinInt, -1, 0, 1, math.MaxInt)}, {8, row(1)}} {
		all := rows(c.n, c.some)
		for _, old := range all {
			for _, next := range all {
				held(t, old, next)
			}
			if t.Failed() {
				t.FailNow()
			}
		}
	}
}

// P9.2: each number that is placed has one step, by Moves of the places where they stood.
func TestStepsByMoves(t *testing.T) {
	t.Parallel()
	all := apart(rows(4, row(1, 2, 3, 4, 5)))
	for _, old := range all {
		for _, next := range all {
			from := make([]int, len(next))
			for i, number := range next {
				from[i] = slices.Index(old, number)
			}
			var want, got []int
			for i, placed := range place.Moves(from) {
				if placed {
					want = append(want, next[i])
				}
			}
			for _, s := range place.Steps(old, next) {
				got = append(got, s.Node)
			}
			if !slices.Equal(got, want) {
				t.Fatalf("%v to %v: steps with %v, but placed are %v", old, next, got, want)
			}
		}
	}
}
