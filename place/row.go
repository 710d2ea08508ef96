package place

import "slices"

// places are those of a row's numbers; of a number that stands in it twice the first one.
type places map[int]int

func placesOf(row []int) places {
	at := make(places, len(row))
	// From the end on, so that the first place is the one that stays.
	for place, number := range slices.Backward(row) {
		at[number] = place
	}
	return at
}

// of answers the number's place; -1: it does not stand in the row.
func (p places) of(number int) int {
	if place, stands := p[number]; stands {
		return place
	}
	return -1
}

// unlike answers the row without those that stand in it once more.
func unlike(row []int) []int {
	at := placesOf(row)
	var first []int
	for place, number := range row {
		if at.of(number) == place {
			first = append(first, number)
		}
	}
	return first
}

// stood answers, for each number of next, its place in old, as Moves takes it.
func stood(old, next []int) []int {
	at := placesOf(old)
	l := make([]int, len(next))
	for i, number := range next {
		l[i] = at.of(number)
	}
	return l
}
