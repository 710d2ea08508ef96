package place_test

import (
	"slices"
	"sync"
	"testing"

	"tapestry/place"
)

// roomy is a row with spare room that is filled.
func roomy(l []int) []int {
	return append(slices.Clone(l), 71, 72, 73)[:len(l)]
}

// whole is a copy of a row, with what stands in its spare room.
func whole(l []int) []int { return slices.Clone(l[:cap(l)]) }

// spoil overwrites a list, its spare room too.
func spoil[T any](l []T, by T) {
	for i := range l[:cap(l)] {
		l[:cap(l)][i] = by
	}
}

// cases are pairs of rows of which each way to be placed, or not, comes; those of numbers twice, too.
func cases() map[string][2][]int {
	return map[string][2][]int{
		"nothing":       {roomy(nil), roomy(nil)},
		"none of old":   {roomy(nil), roomy(row(1, 2))},
		"none of next":  {roomy(row(1, 2)), roomy(nil)},
		"the same":      {roomy(row(1, 2, 3)), roomy(row(1, 2, 3))},
		"turned":        {roomy(row(1, 2, 3)), roomy(row(3, 2, 1))},
		"some are new":  {roomy(row(1, 2, 3)), roomy(row(9, 1, 8, 3, 2))},
		"numbers twice": {roomy(row(1, 2, 1, 3)), roomy(row(3, 3, 9, 1, 9, 2, 2))},
		"below 0":       {roomy(row(-1, 0, -2)), roomy(row(-2, -1, 5, 0))},
		"many":          {roomy(upTo(5000)), roomy(turned(upTo(5000)))},
	}
}

// R4: what is handed in is left as it was, its spare room too; so it is when the answer is overwritten.
func TestLeftAsItWas(t *testing.T) {
	for why, c := range cases() {
		old, next := whole(c[0]), whole(c[1])
		same := func() {
			t.Helper()
			if !slices.Equal(whole(c[0]), old) || !slices.Equal(whole(c[1]), next) {
				t.Fatalf("%s: what was handed in is another one", why)
			}
		}
		got, placed := place.Steps(c[0], c[1]), [2][]bool{place.Moves(c[0]), place.Moves(c[1])}
		same()
		spoil(got, at(-7, -7))
		spoil(placed[0], true)
		spoil(placed[1], true)
		same()
	}
}

// R4: an answer is memory of its own: neither another answer nor what was handed in changes it.
func TestAnswerOfItsOwn(t *testing.T) {
	for why, c := range cases() {
		wantSteps, wantMoves := slices.Clone(place.Steps(c[0], c[1])), slices.Clone(place.Moves(c[1]))
		steps, moves := place.Steps(c[0], c[1]), place.Moves(c[1])
		spoil(place.Steps(c[0], c[1]), at(-7, -7))
		spoil(place.Moves(c[1]), true)
		if !slices.Equal(steps, wantSteps) || !slices.Equal(moves, wantMoves) {
			t.Errorf("%s: spoilt by another answer: %s, %s", why, short(steps), short(moves))
		}
		againSteps, againMoves := place.Steps(c[0], c[1]), place.Moves(c[1])
		if !slices.Equal(againSteps, wantSteps) || !slices.Equal(againMoves, wantMoves) {
			t.Errorf("%s: spoilt by an answer ahead: %s, %s", why, short(againSteps), short(againMoves))
		}
		spoil(c[0], -9)
		spoil(c[1], -9)
		if !slices.Equal(steps, wantSteps) || !slices.Equal(moves, wantMoves) {
			t.Errorf("%s: spoilt by what was handed in: %s, %s", why, short(steps), short(moves))
		}
	}
}

// R4: one row as both, and rows that share memory.
func TestSharedRows(t *testing.T) {
	l := roomy(row(4, 2, 4, 9, 1, 2, 0))
	before := whole(l)
	for i := range len(l) + 1 {
		for j := range len(l) + 1 {
			held(t, l[:i], l[j:])
			held(t, l[j:], l[:i])
			held(t, l[:i], l[:j])
			held(t, l[i:], l[j:])
		}
	}
	if !slices.Equal(whole(l), before) {
		t.Error("what was handed in is another one")
	}
}

// R5: nothing is kept from one call to the next.
func TestCallsBehindOneAnother(t *testing.T) {
	all := rows(3, row(1, 2, 3))
	for i, old := range all {
		for j, next := range all {
			held(t, old, next)
			other := all[(i*j)%len(all)]
			place.Steps(all[(i+j)%len(all)], other)
			if got, want := place.Moves(other), readMoves(other); !slices.Equal(got, want) {
				t.Fatalf("%v: %v, want %v", other, got, want)
			}
			held(t, old, next)
		}
	}
}

// R5: nor is anything shared by calls at once.
func TestCallsAtOnce(t *testing.T) {
	all := rows(3, row(1, 2, 3))
	var wait sync.WaitGroup
	wrong := make([]int, len(all))
	for i, old := range all {
		wait.Add(1)
		go func() {
			defer wait.Done()
			for _, next := range all {
				if !slices.Equal(place.Steps(old, next), readSteps(old, next)) || !slices.Equal(place.Moves(next), readMoves(next)) {
					wrong[i]++
				}
			}
		}()
	}
	wait.Wait()
	for i, n := range wrong {
		if n > 0 {
			t.Errorf("from %v: %d answers are others", all[i], n)
		}
	}
}
