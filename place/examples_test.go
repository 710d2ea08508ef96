package place_test

import "testing"

// P9.1: the chapter's examples.
func TestExamplesOfMoves(t *testing.T) {
	moves(t, row(0, 1, 2), false, false, false)
	moves(t, row(2, 0, 1), false, true, true)
	moves(t, row(1, 2, 0), false, false, true)
	moves(t, row(-1, 0, -1), true, false, true)
	moves(t, row(1, 1, 0), false, false, true)
}

// P9.2: the chapter's examples.
func TestExamplesOfSteps(t *testing.T) {
	steps(t, row(1, 2, 3), row(3, 1, 2), at(1, 0), at(2, 0))
	steps(t, row(1, 2, 3), row(1, 4, 3), at(4, 3))
	steps(t, row(1, 2), row(2, 1), at(1, 0))
	steps(t, row(1, 2, 3), row(2))
	steps(t, nil, row(5, 6), at(5, 0), at(6, 0))
	steps(t, row(1, 2), row(9, 1, 2), at(9, 1))
}
