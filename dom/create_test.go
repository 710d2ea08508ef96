package dom_test

import (
	"math"
	"testing"

	"tapestry/api"
	"tapestry/dom"
)

// notTexts are values that are no Text that may be.
func notTexts() []api.Value {
	return append(noTexts(), api.Value{Kind: api.Text, S: "x", N: 1}, api.Value{Kind: api.Text, L: make([]api.Value, 1)},
		api.Value{Kind: api.Text, F: make([]api.Field, 1)}, api.Value{Kind: api.Text, Elem: api.ElHost}, api.Value{Kind: api.Text, HasKey: true},
		api.Value{Kind: api.Text, Key: "k"}, words(long(api.MaxText+1)))
}

// noTexts are values of all other kinds.
func noTexts() []api.Value {
	return []api.Value{none(), number(0), number(5), truth(0), truth(1), listOf(0), {Kind: api.List, L: []api.Value{words("x")}},
		{Kind: api.Record}, {Kind: api.Record, F: []api.Field{field("a", words("x"))}}, element(1), {Kind: api.Deed, N: 1, S: "x"},
		{Kind: 8, S: "x"}, {Kind: 255}, {S: "x"}}
}

// P10.2, OpCreate: a host of that number and tag, without attributes; it stands nowhere.
func TestCreate(t *testing.T) {
	d := made(t, create(1, "p"))
	has(t, d, 1)
	are(t, d)
	stand(t, d, "")
	does(t, d, create(3, "a b\x00\xff"), create(2, long(api.MaxText)))
	has(t, d, 1, 2, 3)
	are(t, d)
	does(t, d, at(1, "", 0), at(2, "", 0), into(3, 1, 0))
	stand(t, d, "", host(1, "p", host(3, "a b\x00\xff")), host(2, long(api.MaxText)))
}

// P10.2, OpText: a text of that number; it stands nowhere.
func TestText(t *testing.T) {
	d := made(t, text(1, "hi"), text(3, ""), text(2, long(api.MaxText)), text(4, "a\x00\xff\n\""))
	has(t, d, 1, 2, 3, 4)
	are(t, d)
	stand(t, d, "")
	does(t, d, at(1, "", 0), at(2, "", 0), at(3, "", 0), at(4, "", 0))
	stand(t, d, "", leaf(1, "hi"), leaf(2, long(api.MaxText)), leaf(3, ""), leaf(4, "a\x00\xff\n\""))
}

// P10.2: numbers of new nodes.
func TestNumbers(t *testing.T) {
	for _, make := range []func(node int) api.Op{
		func(node int) api.Op { return create(node, "p") },
		func(node int) api.Op { return text(node, "x") },
	} {
		d := dom.New()
		refuses(t, d, api.ErrArg, make(0), make(-1), make(math.MinInt), make(-1<<32))
		does(t, d, make(1), make(2), make(math.MaxInt), make(1<<32+1), make(1<<32))
		// Taken by one that stands nowhere, at a place, within a host.
		does(t, d, create(20, "q"), at(20, "", 0), at(2, "x", 0), into(1, 20, 0))
		refuses(t, d, api.ErrArg, make(1), make(2), make(20), make(math.MaxInt), make(1<<32), create(1, "p"), text(1, "x"), create(20, "q"), text(20, ""))
		// Free again, by itself and with what it stood in.
		does(t, d, remove(2), make(2), remove(20), make(1), make(20))
		refuses(t, d, api.ErrArg, make(1), make(2), make(20))
		has(t, d, 1, 2, 20)
		are(t, d)
	}
}

// P10.2, OpCreate: ErrArg for what is no name.
func TestTagsThatAreNone(t *testing.T) {
	d := dom.New()
	refuses(t, d, api.ErrArg, create(1, ""), create(1, long(api.MaxText+1)), create(1, long(100000)), create(0, ""), create(-1, long(api.MaxText+1)))
	has(t, d)
	does(t, d, create(1, "x"), create(2, long(api.MaxText)))
	refuses(t, d, api.ErrArg, create(1, ""), create(1, long(api.MaxText+1)))
}

// P10.2, OpText and OpWrite: ErrArg for what is no Text that may be.
func TestTextsThatAreNone(t *testing.T) {
	d := made(t, text(2, "x"), at(2, "", 0))
	for _, v := range notTexts() {
		refuses(t, d, api.ErrArg, api.Op{Kind: api.OpText, Node: 1, Value: v}, api.Op{Kind: api.OpWrite, Node: 2, Value: v})
	}
	has(t, d, 2)
	stand(t, d, "", leaf(2, "x"))
}

// P10.2, OpWrite: that is its text.
func TestWrite(t *testing.T) {
	d := made(t, text(1, "a"), text(2, "b"), create(3, "p"), at(1, "", 0), at(3, "", 0))
	does(t, d, write(1, "A"), write(2, "B"))
	stand(t, d, "", leaf(1, "A"), host(3, "p"))
	does(t, d, into(2, 3, 0))
	stand(t, d, "", leaf(1, "A"), host(3, "p", leaf(2, "B")))
	does(t, d, write(2, ""), write(1, long(api.MaxText)), write(1, long(api.MaxText)))
	stand(t, d, "", leaf(1, long(api.MaxText)), host(3, "p", leaf(2, "")))
}

// P10.2, OpWrite: ErrGone first, then ErrArg.
func TestWriteRefused(t *testing.T) {
	d := made(t, text(1, "a"), create(2, "p"), text(3, "b"), remove(3))
	tooLong := words(long(api.MaxText + 1))
	for _, gone := range []int{3, 0, -1, 9, math.MinInt, math.MaxInt} {
		refuses(t, d, api.ErrGone, write(gone, "x"), api.Op{Kind: api.OpWrite, Node: gone}, api.Op{Kind: api.OpWrite, Node: gone, Value: tooLong})
	}
	refuses(t, d, api.ErrArg, write(2, "x"), write(2, ""), api.Op{Kind: api.OpWrite, Node: 2}, api.Op{Kind: api.OpWrite, Node: 2, Value: tooLong})
	does(t, d, write(1, "x"))
}
