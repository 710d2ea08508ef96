package dom_test

import (
	"slices"
	"testing"

	"tapestry/api"
	"tapestry/dom"
)

// answers: are these the answers to these ops, one behind the other?
func answers(t *testing.T, d *dom.Doc, want []api.Errno, l ...api.Op) {
	t.Helper()
	var got []api.Errno
	for _, o := range l {
		got = append(got, d.Do(o))
	}
	if !slices.Equal(got, want) {
		t.Errorf("%v, want %v", got, want)
	}
}

// The chapter's examples, one behind the other, on one document.
func TestExamples(t *testing.T) {
	const ok, arg, gone = api.OK, api.ErrArg, api.ErrGone
	d := dom.New()
	hi, id := leaf(2, "hi"), field("id", number(5))

	answers(t, d, []api.Errno{ok, ok, arg, arg, arg}, create(1, "div"), text(2, "hi"), create(1, "p"), create(0, "p"), create(3, ""))

	answers(t, d, []api.Errno{ok, ok, ok}, at(1, "", 0), into(2, 1, 0), attr(1, "id", number(5)))
	stand(t, d, "", with(host(1, "div", hi), id))

	answers(t, d, []api.Errno{arg, arg, gone, gone}, into(1, 1, 0), into(1, 2, 0), at(2, "x", 1), at(9, "", 0))

	answers(t, d, []api.Errno{ok, ok, ok}, create(3, "p"), into(3, 1, 2), at(2, "top", 0))
	are(t, d, "", "top")
	stand(t, d, "", with(host(1, "div", host(3, "p")), id))
	stand(t, d, "top", hi)

	answers(t, d, []api.Errno{ok, arg, arg, gone, ok}, write(2, "ho"), write(1, "ho"), attr(2, "a", number(1)), drop(1, "no"), drop(1, "id"))
	stand(t, d, "", host(1, "div", host(3, "p")))
	stand(t, d, "top", leaf(2, "ho"))

	answers(t, d, []api.Errno{ok}, remove(1))
	has(t, d, 2)
	answers(t, d, []api.Errno{gone}, remove(1))
	are(t, d, "top")
	want := []api.Op{create(1, "div"), text(2, "hi"), at(1, "", 0), into(2, 1, 0), attr(1, "id", number(5)), create(3, "p"),
		into(3, 1, 2), at(2, "top", 0), write(2, "ho"), drop(1, "id"), remove(1)}
	if got := d.Log(); len(got) != 11 || !sameOps(got, want) {
		t.Errorf("log %v, want %v", got, want)
	}

	var no *dom.Doc
	answers(t, no, []api.Errno{api.ErrNil}, create(1, "div"))
	if got := no.Nodes(""); len(got) != 0 {
		t.Errorf("nodes of a nil document: %v", got)
	}
	if no.Has(1) {
		t.Error("a nil document has a node")
	}
}
