package place_test

import (
	"fmt"
	"slices"
	"testing"

	"tapestry/place"
)

// What the tests make rows by.

func row(l ...int) []int { return l }

// upTo is the row of the numbers 1 to n.
func upTo(n int) []int {
	l := make([]int, n)
	for i := range l {
		l[i] = i + 1
	}
	return l
}

// turned is the row from its end on.
func turned(l []int) []int {
	l = slices.Clone(l)
	slices.Reverse(l)
	return l
}

// each goes through all rows of up to n of these numbers.
func each(n int, some []int, do func(l []int)) {
	var with func(l []int)
	with = func(l []int) {
		do(l)
		if len(l) == n {
			return
		}
		for _, number := range some {
			with(append(l[:len(l):len(l)], number))
		}
	}
	with(nil)
}

// rows are all rows of up to n of these numbers.
func rows(n int, some []int) [][]int {
	var all [][]int
	each(n, some, func(l []int) { all = append(all, l) })
	return all
}

// apart are those of the rows in which no number stands twice.
func apart(all [][]int) [][]int {
	return slices.DeleteFunc(all, func(l []int) bool {
		for i, number := range l {
			if slices.Index(l, number) != i {
				return true
			}
		}
		return false
	})
}

// orders are the row in each order that it can have.
func orders(l []int) [][]int {
	if len(l) == 0 {
		return [][]int{nil}
	}
	var all [][]int
	for i, number := range l {
		rest := append(l[:i:i], l[i+1:]...)
		for _, order := range orders(rest) {
			all = append(all, append([]int{number}, order...))
		}
	}
	return all
}

// without is the row less the numbers that do not stand in the other one.
func without(l, other []int) []int {
	return slices.DeleteFunc(slices.Clone(l), func(number int) bool { return !slices.Contains(other, number) })
}

// A second reading of the chapter, without a map: places are looked for in the rows, what stands ahead and behind is gone through for each number.

func readMoves(from []int) []bool {
	var all []bool
	for i, at := range from {
		placed := at < 0
		for _, ahead := range from[:i] {
			if ahead >= 0 && at < ahead {
				placed = true
			}
		}
		all = append(all, placed)
	}
	return all
}

// isPlaced: is the number at the place i of next placed?
func isPlaced(old, next []int, i int) bool {
	at := slices.Index(old, next[i])
	if at < 0 {
		return true
	}
	return slices.ContainsFunc(next[:i], func(ahead int) bool { return slices.Index(old, ahead) > at })
}

func readSteps(old, next []int) []place.Step {
	var all []place.Step
	passedOver := func(i int) bool { return slices.Index(next, next[i]) != i }
	for i, number := range next {
		if passedOver(i) || !isPlaced(old, next, i) {
			continue
		}
		step := place.Step{Node: number}
		for j := i + 1; j < len(next); j++ {
			if !passedOver(j) && !isPlaced(old, next, j) {
				step.Before = next[j]
				break
			}
		}
		all = append(all, step)
	}
	return all
}

// done is the row behind a step, as the chapter's word says; no promise is asked of it.
func done(l []int, s place.Step) []int {
	if at := slices.Index(l, s.Node); at >= 0 {
		l = slices.Delete(slices.Clone(l), at, at+1)
	}
	if at := slices.Index(l, s.Before); s.Before != 0 && at >= 0 {
		return slices.Insert(slices.Clone(l), at, s.Node)
	}
	return append(slices.Clone(l), s.Node)
}

// moves: is just this the answer? The second reading has to say so, too.
func moves(t *testing.T, from []int, want ...bool) {
	t.Helper()
	if got := readMoves(from); !slices.Equal(got, want) {
		t.Errorf("%s: the test's own reading is %s, want %s", short(from), short(got), short(want))
	}
	if got := place.Moves(from); !slices.Equal(got, want) {
		t.Errorf("%s: %s, want %s", short(from), short(got), short(want))
	}
}

// steps: are just these the answer? The second reading has to say so, too.
func steps(t *testing.T, old, next []int, want ...place.Step) {
	t.Helper()
	if got := readSteps(old, next); !slices.Equal(got, want) {
		t.Errorf("%s to %s: the test's own reading is %s, want %s", short(old), short(next), short(got), short(want))
	}
	if got := place.Steps(old, next); !slices.Equal(got, want) {
		t.Errorf("%s to %s: %s, want %s", short(old), short(next), short(got), short(want))
	}
}

// at is a step that inserts a number ahead of another one; 0: at the end.
func at(node, before int) place.Step { return place.Step{Node: node, Before: before} }

// held: is the answer what the second reading says?
func held(t *testing.T, old, next []int) []place.Step {
	t.Helper()
	got := place.Steps(old, next)
	if want := readSteps(old, next); !slices.Equal(got, want) {
		t.Errorf("%s to %s: %s, want %s", short(old), short(next), short(got), short(want))
	}
	return got
}

// follows: what P9.3 says of rows of unlike numbers above 0.
func follows(t *testing.T, old, next []int, got []place.Step) {
	t.Helper()
	if len(got) > len(next) {
		t.Errorf("%s to %s: %d steps", short(old), short(next), len(got))
	}
	stays := without(old, next)
	if len(got) > 0 && slices.Equal(stays, next) {
		t.Errorf("%s to %s: %s, but none is to be moved", short(old), short(next), short(got))
	}
	l := stays
	for _, s := range got {
		if i := slices.Index(next, s.Node); i < 0 || !isPlaced(old, next, i) {
			t.Errorf("%s to %s: a step with %d, which is not placed", short(old), short(next), s.Node)
		}
		if s.Before != 0 && !slices.Contains(l, s.Before) {
			t.Errorf("%s to %s: a step ahead of %d, which does not stand there", short(old), short(next), s.Before)
		}
		l = done(l, s)
	}
	if !slices.Equal(l, next) {
		t.Errorf("%s to %s: %s makes %s", short(old), short(next), short(got), short(l))
	}
}

// short is the beginning of a list.
func short[T any](l []T) string {
	return fmt.Sprint(len(l), ": ", l[:min(len(l), 20)])
}
