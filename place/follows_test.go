package place_test

import (
	"slices"
	"testing"

	"tapestry/api"
	"tapestry/place"
)

// P9.3: all pairs of short rows of unlike numbers above 0.
func TestMakesNext(t *testing.T) {
	t.Parallel()
	all := apart(rows(5, row(3, 1, 4, 2, 9)))
	for _, old := range all {
		for _, next := range all {
			follows(t, old, next, held(t, old, next))
		}
		if t.Failed() {
			t.FailNow()
		}
	}
}

// P9.3: from each order to each other one, and to all with a new one somewhere.
func TestAllOrders(t *testing.T) {
	t.Parallel()
	for _, next := range orders(upTo(7)) {
		follows(t, upTo(7), next, held(t, upTo(7), next))
		follows(t, next, upTo(7), held(t, next, upTo(7)))
	}
	for _, next := range orders(upTo(6)) {
		for i := range 7 {
			with := slices.Insert(slices.Clone(next), i, 8)
			follows(t, upTo(6), with, held(t, upTo(6), with))
			follows(t, with, upTo(6), held(t, with, upTo(6)))
		}
		if t.Failed() {
			t.FailNow()
		}
	}
}

// P9.3: there is no step, if the next row is the old one without some, and it is the very numbers that count.
func TestWithoutSome(t *testing.T) {
	t.Parallel()
	for _, old := range orders(row(2, 3, 5, 7, 11)) {
		for some := range 1 << len(old) {
			var next []int
			for i, number := range old {
				if some>>i&1 == 1 {
					next = append(next, number)
				}
			}
			if got := place.Steps(old, next); len(got) != 0 {
				t.Fatalf("%v to %v: %v", old, next, got)
			}
		}
	}
}

// P9.3: what is not placed is in no step, and no step stands ahead of one that is.
func TestWhatStays(t *testing.T) {
	t.Parallel()
	all := apart(rows(4, upTo(6)))
	for _, old := range all {
		for _, next := range all {
			got := place.Steps(old, next)
			var stays []int
			for i, number := range next {
				if !isPlaced(old, next, i) {
					stays = append(stays, number)
				}
			}
			for _, s := range got {
				if slices.Contains(stays, s.Node) || s.Before != 0 && !slices.Contains(stays, s.Before) {
					t.Fatalf("%v to %v: %v, but %v stay", old, next, got, stays)
				}
			}
			if len(got)+len(stays) != len(next) {
				t.Fatalf("%v to %v: %v, and %v stay", old, next, got, stays)
			}
		}
	}
}

// numbers are a row of numbers, the same one each time.
type numbers uint32

// next number of the row, below n.
func (r *numbers) next(n int) int {
	*r = *r*1664525 + 1013904223
	return int(*r>>8) % n
}

// some is a row of up to n unlike numbers from 1 to n.
func (r *numbers) some(n int) []int {
	l := upTo(n)
	for i := range l {
		j := r.next(i + 1)
		l[i], l[j] = l[j], l[i]
	}
	return l[:r.next(n+1)]
}

// P9.3: longer rows of which some have gone, some are new, some are moved.
func TestLongerRows(t *testing.T) {
	t.Parallel()
	r := numbers(9)
	for _, n := range []int{8, 20, 60, 200} {
		for range 12 {
			old, next := r.some(n), r.some(n)
			follows(t, old, next, held(t, old, next))
			// The old row with a few of them elsewhere, as it comes most often.
			next = slices.Clone(old)
			for range 3 {
				if i := r.next(len(next) + 1); i < len(next) {
					number := next[i]
					next = slices.Delete(next, i, i+1)
					next = slices.Insert(next, r.next(len(next)+1), number)
				}
			}
			follows(t, old, next, held(t, old, next))
		}
	}
}

// P9.2: longer rows with numbers that come again and again, some below 0.
func TestLongerRowsOfFewNumbers(t *testing.T) {
	t.Parallel()
	r := numbers(19)
	for _, n := range []int{2, 5, 40, 300} {
		some := func() []int {
			l := make([]int, r.next(200))
			for i := range l {
				l[i] = r.next(n) - n/2
			}
			return l
		}
		for range 12 {
			held(t, some(), some())
		}
	}
}

// P9.3: rows of as many as there may be, and of more; a call ends soon.
func TestLongRows(t *testing.T) {
	t.Parallel()
	for _, n := range []int{api.MaxKids - 1, api.MaxKids, api.MaxKids + 1, 300000} {
		l := upTo(n)
		for _, next := range [][]int{l, l[1:], l[:n-1], l[n/2 : n/2+1], nil} {
			if got := place.Steps(l, next); len(got) != 0 {
				t.Errorf("of %d to %s: %s", n, short(next), short(got))
			}
		}
		// The first one to the end; the last one to the front; turned round; all new.
		only(t, place.Steps(l, append(slices.Clone(l[1:]), 1)), at(1, 0))
		only(t, place.Steps(l, append([]int{n}, l[:n-1]...)), atEnd(l[:n-1])...)
		only(t, place.Steps(l, turned(l)), atEnd(turned(l[:n-1]))...)
		only(t, place.Steps(nil, l), atEnd(l)...)
		only(t, place.Steps(l, append([]int{n + 1}, l...)), at(n+1, 1))
		// One number again and again.
		same := make([]int, n)
		only(t, place.Steps(same, same))
		only(t, place.Steps(nil, same), at(0, 0))
		only(t, place.Steps(l, same), at(0, 0))
	}
}

// atEnd are steps of each number, to the end.
func atEnd(l []int) []place.Step {
	var all []place.Step
	for _, number := range l {
		all = append(all, at(number, 0))
	}
	return all
}

// only: are these the steps, and no others?
func only(t *testing.T, got []place.Step, want ...place.Step) {
	t.Helper()
	if !slices.Equal(got, want) {
		t.Errorf("%s, want %s", short(got), short(want))
	}
}
