package dom_test

import (
	"math"
	"testing"

	"tapestry/api"
	"tapestry/dom"
)

// three is a host 1 at the root's own place with the texts 2, 3, 4 within it; the hosts 5 and 6 stand nowhere, the text 7 at the place x.
func three(t testing.TB) *dom.Doc {
	t.Helper()
	return made(t, create(1, "p"), text(2, "b"), text(3, "c"), text(4, "d"), create(5, "q"), create(6, "r"), text(7, "g"),
		at(1, "", 0), into(2, 1, 0), into(3, 1, 0), into(4, 1, 0), at(7, "x", 0))
}

// withKids: is just this within the host 1 of such a document, told by the texts' numbers?
func withKids(t *testing.T, d *dom.Doc, want ...int) {
	t.Helper()
	var kids []api.Node
	for _, id := range want {
		kids = append(kids, leaf(id, string(rune('a'-1+id))))
	}
	stand(t, d, "", host(1, "p", kids...))
}

// P10.2, OpInsert: into a host, at the end and ahead of each one.
func TestInsertIntoHost(t *testing.T) {
	for before, want := range map[int][]int{0: {2, 3, 4, 7}, 2: {7, 2, 3, 4}, 3: {2, 7, 3, 4}, 4: {2, 3, 7, 4}} {
		d := three(t)
		does(t, d, into(7, 1, before))
		withKids(t, d, want...)
		are(t, d, "")
	}
	d := three(t)
	does(t, d, into(5, 6, 0), into(7, 5, 0), at(6, "", 0))
	stand(t, d, "", host(1, "p", leaf(2, "b"), leaf(3, "c"), leaf(4, "d")), host(6, "r", host(5, "q", leaf(7, "g"))))
}

// P10.2, OpInsert: at a place, at the end and ahead of each one; the root's own is one like others.
func TestInsertAtPlace(t *testing.T) {
	for _, place := range []string{"", "x", "\x00\xff", long(api.MaxText)} {
		for before, want := range map[int][]int{0: {1, 2, 3, 9}, 1: {9, 1, 2, 3}, 2: {1, 9, 2, 3}, 3: {1, 2, 9, 3}} {
			d := made(t, text(1, ""), text(2, ""), text(3, ""), text(9, ""), at(1, place, 0), at(2, place, 0), at(3, place, 0))
			does(t, d, at(9, place, before))
			var l []api.Node
			for _, id := range want {
				l = append(l, leaf(id, ""))
			}
			stand(t, d, place, l...)
			are(t, d, place)
		}
	}
}

// P10.2, OpInsert: in the same row, each node ahead of each other one and at the end: it goes from where it stands.
func TestInsertInSameRow(t *testing.T) {
	for _, c := range []struct {
		node, before int
		want         []int
	}{
		{2, 0, []int{3, 4, 2}}, {2, 3, []int{2, 3, 4}}, {2, 4, []int{3, 2, 4}},
		{3, 0, []int{2, 4, 3}}, {3, 2, []int{3, 2, 4}}, {3, 4, []int{2, 3, 4}},
		{4, 0, []int{2, 3, 4}}, {4, 2, []int{4, 2, 3}}, {4, 3, []int{2, 4, 3}},
	} {
		d := three(t)
		does(t, d, into(c.node, 1, c.before))
		withKids(t, d, c.want...)
		// And on from there: the row is whole.
		does(t, d, into(7, 1, c.want[2]), into(7, 1, 0), into(7, 1, c.want[0]))
		withKids(t, d, append([]int{7}, c.want...)...)
		does(t, d, remove(c.want[1]))
		withKids(t, d, 7, c.want[0], c.want[2])
	}
}

// P10.2, OpInsert: the only one of a row, to where it stands.
func TestInsertOnlyOne(t *testing.T) {
	d := three(t)
	does(t, d, at(7, "x", 0), at(1, "", 0), at(1, "", 0))
	are(t, d, "", "x")
	stand(t, d, "x", leaf(7, "g"))
	withKids(t, d, 2, 3, 4)
	does(t, d, into(7, 5, 0), into(7, 5, 0), at(5, "x", 0))
	stand(t, d, "x", host(5, "q", leaf(7, "g")))
	refuses(t, d, api.ErrArg, at(5, "x", 5), into(7, 5, 7))
}

// P10.2, OpInsert: from a host to another one, to a place and to another place, and back.
func TestInsertElsewhere(t *testing.T) {
	d := three(t)
	does(t, d, at(3, "x", 7), at(5, "", 1), into(2, 5, 0))
	stand(t, d, "", host(5, "q", leaf(2, "b")), host(1, "p", leaf(4, "d")))
	stand(t, d, "x", leaf(3, "c"), leaf(7, "g"))
	does(t, d, at(7, "", 1), at(3, "y", 0))
	are(t, d, "", "y")
	stand(t, d, "", host(5, "q", leaf(2, "b")), leaf(7, "g"), host(1, "p", leaf(4, "d")))
	does(t, d, into(2, 1, 4), into(3, 1, 4), at(7, "x", 0), remove(5))
	withKids(t, d, 2, 3, 4)
	are(t, d, "", "x")
}

// P10.2, OpInsert: all that is within a host goes with it.
func TestInsertWithAllWithin(t *testing.T) {
	d := three(t)
	does(t, d, attr(1, "a", number(1)), into(5, 1, 3), into(7, 5, 0), attr(5, "b", truth(1)))
	whole := with(host(1, "p", leaf(2, "b"), with(host(5, "q", leaf(7, "g")), field("b", truth(1))), leaf(3, "c"), leaf(4, "d")), field("a", number(1)))
	stand(t, d, "", whole)
	are(t, d, "")
	does(t, d, at(1, "top", 0))
	are(t, d, "top")
	stand(t, d, "top", whole)
	does(t, d, into(1, 6, 0))
	are(t, d)
	does(t, d, at(6, "", 0))
	stand(t, d, "", host(6, "r", whole))
	// Out of the middle of it.
	does(t, d, at(5, "", 6))
	stand(t, d, "", with(host(5, "q", leaf(7, "g")), field("b", truth(1))),
		host(6, "r", with(host(1, "p", leaf(2, "b"), leaf(3, "c"), leaf(4, "d")), field("a", number(1)))))
	has(t, d, 1, 2, 3, 4, 5, 6, 7)
}

// P10.2, OpInsert: ErrGone for what is no node, ahead of all of ErrArg.
func TestInsertOfWhatIsGone(t *testing.T) {
	d := three(t)
	does(t, d, text(8, "h"), create(9, "s"), remove(8), remove(9))
	tooLong := long(api.MaxText + 1)
	for _, gone := range []int{8, 9, 0, -1, 30, math.MinInt, math.MaxInt} {
		refuses(t, d, api.ErrGone, at(gone, "", 0), at(gone, "x", 7), into(gone, 1, 0), into(gone, 1, 2), into(gone, gone, 0), at(gone, tooLong, 0),
			into(gone, 2, 0), at(gone, "", gone), api.Op{Kind: api.OpInsert, Node: gone, Parent: 1, Place: "x"})
		if gone == 0 {
			continue // no host, but a place
		}
		refuses(t, d, api.ErrGone, into(2, gone, 0), into(2, gone, 2), into(2, gone, 3), into(gone, gone, 0),
			api.Op{Kind: api.OpInsert, Node: 2, Parent: gone, Place: "x"}, api.Op{Kind: api.OpInsert, Node: 2, Parent: gone, Place: tooLong})
	}
}

// P10.2, OpInsert: ErrArg, ahead of ErrGone for Before.
func TestInsertThatMayNotBe(t *testing.T) {
	d := three(t)
	does(t, d, into(5, 1, 0), into(6, 5, 0))
	tooLong := long(api.MaxText + 1)
	for _, before := range []int{0, 2, 3, 6, 7, 30, -1} {
		refuses(t, d, api.ErrArg,
			api.Op{Kind: api.OpInsert, Node: 7, Parent: 1, Place: "x", Before: before}, // both
			api.Op{Kind: api.OpInsert, Node: 7, Parent: 1, Place: tooLong, Before: before},
			at(2, tooLong, before), at(1, tooLong, before),
			into(7, 2, before), into(3, 2, before), into(1, 7, before), // no host
			into(1, 1, before), into(5, 5, before), into(6, 6, before), into(2, 2, before), // itself
			into(1, 5, before), into(1, 6, before), into(5, 6, before), into(1, 2, before), // within it
		)
	}
	refuses(t, d, api.ErrArg, into(2, 1, 2), into(3, 1, 3), at(1, "", 1), at(7, "x", 7), // ahead of itself where it stands,
		at(1, "x", 1), into(7, 1, 7), into(2, 5, 2), at(2, "", 2), at(2, "y", 2)) // or does not
	does(t, d, into(7, 6, 0), at(2, long(api.MaxText), 0))
	stand(t, d, "", host(1, "p", leaf(3, "c"), leaf(4, "d"), host(5, "q", host(6, "r", leaf(7, "g")))))
}

// P10.2, OpInsert: what stands nowhere neither holds itself, nor goes into what is within it.
func TestInsertNowhereIntoItself(t *testing.T) {
	d := made(t, create(1, "p"), create(2, "p"), create(3, "p"), text(4, "x"))
	refuses(t, d, api.ErrArg, into(1, 1, 0))
	does(t, d, into(2, 1, 0), into(3, 2, 0), into(4, 3, 0))
	refuses(t, d, api.ErrArg, into(1, 2, 0), into(1, 3, 0), into(2, 3, 0), into(2, 2, 0), into(3, 3, 0), into(1, 4, 0))
	are(t, d)
	does(t, d, into(3, 1, 0), into(2, 3, 4))
	refuses(t, d, api.ErrArg, into(3, 2, 0), into(1, 2, 0))
	does(t, d, at(1, "", 0))
	stand(t, d, "", host(1, "p", host(3, "p", host(2, "p"), leaf(4, "x"))))
}

// P10.2, OpInsert: ErrGone for a Before that does not stand right in the row to which Node comes.
func TestInsertAheadOfWhatIsNotThere(t *testing.T) {
	d := three(t)
	does(t, d, at(6, "x", 0), text(8, "h"), remove(8), text(9, "i"), into(9, 6, 0))
	for _, before := range []int{5, 6, 8, 30, -1, math.MinInt, math.MaxInt, 7, 1} {
		refuses(t, d, api.ErrGone, into(2, 1, before)) // it stands nowhere, at a place, is gone, holds the row
	}
	refuses(t, d, api.ErrGone,
		into(7, 1, 9), into(7, 5, 2), into(2, 6, 3), // in another host; where Node stands ahead of it
		at(7, "", 2), at(2, "", 3), at(1, "", 4), // within what stands there
		at(2, "", 7), at(2, "x", 1), at(2, "y", 1), at(2, "y", 7), at(2, long(api.MaxText), 7), // at another place
		at(2, "", 5), at(2, "x", 5), at(2, "z", 5), into(2, 6, 5), // nowhere
		into(5, 6, 1), into(5, 6, 6), at(5, "x", 9))
	withKids(t, d, 2, 3, 4)
	stand(t, d, "x", leaf(7, "g"), host(6, "r", leaf(9, "i")))
	does(t, d, into(2, 1, 4), at(3, "x", 6), into(4, 6, 9), at(5, "", 1))
	stand(t, d, "x", leaf(7, "g"), leaf(3, "c"), host(6, "r", leaf(4, "d"), leaf(9, "i")))
	stand(t, d, "", host(5, "q"), host(1, "p", leaf(2, "b")))
}

// P10.2, OpInsert: ahead of a node that stood in the row once; at a place where none stands, ahead of one that stands nowhere.
func TestInsertAheadOfWhatWentAway(t *testing.T) {
	d := three(t)
	does(t, d, into(3, 5, 0))
	refuses(t, d, api.ErrGone, into(2, 1, 3), into(7, 1, 3), at(7, "y", 6), at(7, "y", 5), at(7, "y", 3))
	does(t, d, remove(5), text(3, "c"))
	refuses(t, d, api.ErrGone, into(2, 1, 3), at(7, "x", 3), at(7, "", 3))
	does(t, d, into(3, 1, 2), into(2, 1, 3))
	withKids(t, d, 2, 3, 4)
}
