package dom_test

import (
	"math"
	"testing"

	"tapestry/api"
)

// P10.2, OpRemove: a text and a host without anything, wherever they stand.
func TestRemove(t *testing.T) {
	for _, place := range []string{"", "x"} {
		d := made(t, text(1, "a"), create(2, "p"), text(3, "c"), text(4, "d"), at(1, place, 0), at(2, place, 0), at(3, place, 0), at(4, place, 0))
		does(t, d, remove(2))
		stand(t, d, place, leaf(1, "a"), leaf(3, "c"), leaf(4, "d"))
		does(t, d, remove(1))
		stand(t, d, place, leaf(3, "c"), leaf(4, "d"))
		does(t, d, remove(4))
		stand(t, d, place, leaf(3, "c"))
		are(t, d, place)
		has(t, d, 3)
		does(t, d, remove(3))
		are(t, d)
		stand(t, d, place)
		has(t, d)
	}
	d := three(t)
	does(t, d, remove(3))
	withKids(t, d, 2, 4)
	does(t, d, remove(4), remove(2))
	withKids(t, d)
	has(t, d, 1, 5, 6, 7)
}

// P10.2, OpRemove: all that is within a host is there no more, either; what stands beside it is.
func TestRemoveWithAllWithin(t *testing.T) {
	d := three(t)
	does(t, d, into(5, 1, 3), into(6, 5, 0), text(8, "h"), into(8, 6, 0), into(7, 1, 0), create(9, "s"), at(9, "", 1), text(10, "j"), into(10, 9, 0))
	has(t, d, 1, 2, 3, 4, 5, 6, 7, 8, 9, 10)
	does(t, d, remove(5))
	has(t, d, 1, 2, 3, 4, 7, 9, 10)
	stand(t, d, "", host(9, "s", leaf(10, "j")), host(1, "p", leaf(2, "b"), leaf(3, "c"), leaf(4, "d"), leaf(7, "g")))
	does(t, d, remove(1))
	has(t, d, 9, 10)
	stand(t, d, "", host(9, "s", leaf(10, "j")))
	does(t, d, at(10, "y", 0), remove(9))
	has(t, d, 10)
	are(t, d, "y")
}

// P10.2, OpRemove: of what stands nowhere, with what is within it.
func TestRemoveNowhere(t *testing.T) {
	d := three(t)
	does(t, d, into(6, 5, 0), into(7, 6, 0), into(2, 6, 7))
	are(t, d, "")
	does(t, d, remove(5))
	has(t, d, 1, 3, 4)
	withKids(t, d, 3, 4)
	does(t, d, text(5, "e"), remove(5))
	has(t, d, 1, 3, 4)
}

// P10.2, OpRemove: ErrGone, if there is no such node, or none any more.
func TestRemoveRefused(t *testing.T) {
	d := three(t)
	does(t, d, into(5, 1, 0), into(6, 5, 0), remove(5), remove(2))
	refuses(t, d, api.ErrGone, remove(2), remove(5), remove(6), remove(0), remove(-1), remove(30), remove(math.MaxInt), remove(math.MinInt))
	has(t, d, 1, 3, 4, 7)
	does(t, d, remove(1))
	refuses(t, d, api.ErrGone, remove(1), remove(3), remove(4))
	has(t, d, 7)
}

// P10.2, OpRemove: what is gone can be no host, nothing to stand ahead of, nothing that is told of; its number is free.
func TestRemoveFreesNumbers(t *testing.T) {
	d := three(t)
	does(t, d, into(5, 1, 3), into(6, 5, 0), remove(5))
	refuses(t, d, api.ErrGone, into(7, 5, 0), into(7, 6, 0), into(7, 1, 5), into(5, 1, 0), write(6, "x"), attr(6, "a", number(1)), drop(5, "a"))
	does(t, d, text(5, "e"), create(6, "r"), into(6, 1, 3), into(5, 6, 0))
	stand(t, d, "", host(1, "p", leaf(2, "b"), host(6, "r", leaf(5, "e")), leaf(3, "c"), leaf(4, "d")))
	does(t, d, remove(1))
	for id := 1; id <= 6; id++ {
		does(t, d, create(id, "z"), at(id, "", 0))
	}
	stand(t, d, "", host(1, "z"), host(2, "z"), host(3, "z"), host(4, "z"), host(5, "z"), host(6, "z"))
}

// P10.3, Places: those at which a node stands, rising; they go with the last one.
func TestPlaces(t *testing.T) {
	d := made(t)
	names := []string{"b", "\xff", "a", "", "B", "ab", "é", long(api.MaxText), "\x00"}
	for i, name := range names {
		does(t, d, text(i+1, name), at(i+1, name, 0))
	}
	are(t, d, "", "\x00", "B", "a", "ab", "b", long(api.MaxText), "é", "\xff")
	does(t, d, remove(4), at(1, "a", 0), at(8, "a", 3))
	are(t, d, "\x00", "B", "a", "ab", "é", "\xff")
	stand(t, d, "a", leaf(8, long(api.MaxText)), leaf(3, "a"), leaf(1, "b"))
	does(t, d, create(20, "p"), into(9, 20, 0), into(5, 20, 0), into(6, 20, 0))
	are(t, d, "a", "é", "\xff")
	does(t, d, at(20, "é", 7), remove(2))
	are(t, d, "a", "é")
	does(t, d, remove(20), remove(1), remove(3), remove(7))
	are(t, d, "a")
	does(t, d, remove(8))
	are(t, d)
}

// P10.3, Nodes: of a place where none stands, or that is none, there are none; each place has its own.
func TestNodesOfOtherPlaces(t *testing.T) {
	d := three(t)
	for _, place := range []string{"y", "X", "xx", "\x00", "p", "1", long(api.MaxText), long(api.MaxText + 1)} {
		stand(t, d, place)
	}
	stand(t, d, "x", leaf(7, "g"))
	are(t, d, "", "x") // asked of, they are none yet
	does(t, d, at(7, "y", 0))
	stand(t, d, "x")
	stand(t, d, "y", leaf(7, "g"))
}

// P10.3, Has: wherever it stands.
func TestHas(t *testing.T) {
	d := three(t)
	has(t, d, 1, 2, 3, 4, 5, 6, 7)
	does(t, d, into(2, 5, 0), into(1, 6, 0), into(7, 6, 1), create(40, "p"))
	has(t, d, 1, 2, 3, 4, 5, 6, 7, 40)
	for _, id := range []int{math.MinInt, math.MaxInt, 1 << 32, 1<<32 + 1, -1 << 32} {
		if d.Has(id) {
			t.Errorf("Has(%d)", id)
		}
	}
}

// P10.4: all that was done, in order, as it was told; what was refused is not in it.
func TestLog(t *testing.T) {
	d := made(t)
	var want []api.Op
	for _, o := range []api.Op{
		create(1, "p"), create(1, "p"), at(1, "", 0), at(1, "", 0), at(1, "", 1), attr(1, "a", number(1)), attr(1, "a", number(1)), attr(1, "a", none()),
		drop(1, "a"), drop(1, "a"), text(2, "x"), into(2, 1, 0), write(2, "x"), write(2, "y"), write(1, "y"), into(2, 1, 0), at(2, "z", 1),
		{}, at(2, "z", 0), remove(1), remove(1), create(1, "q"), into(2, 1, 2), {Kind: api.OpRemove, Node: 2, Place: "z"}, into(2, 1, 0),
	} {
		if d.Do(o) == api.OK {
			want = append(want, o)
		}
		if got := d.Log(); !sameOps(got, want) {
			t.Fatalf("%v, want %v", got, want)
		}
	}
	if len(want) != 15 {
		t.Errorf("%d were done", len(want))
	}
}
