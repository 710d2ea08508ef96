package dom_test

import (
	"testing"

	"tapestry/api"
	"tapestry/dom"
)

// bare: does the document tell nothing?
func bare(t *testing.T, d *dom.Doc) {
	t.Helper()
	for _, place := range []string{"", "x", long(api.MaxText), long(api.MaxText + 1)} {
		if got := d.Nodes(place); len(got) != 0 {
			t.Errorf("nodes of %.20q: %v", place, got)
		}
	}
	if got := d.Places(); len(got) != 0 {
		t.Errorf("places %q", got)
	}
	if got := d.Log(); len(got) != 0 {
		t.Errorf("log %v", got)
	}
	has(t, d)
}

// P10.1: without nodes; nothing was done to it.
func TestNew(t *testing.T) {
	d := dom.New()
	if d == nil {
		t.Fatal("there is none")
	}
	bare(t, d)
	refuses(t, d, api.ErrGone, write(1, "a"), attr(1, "a", number(1)), drop(1, "a"), at(1, "", 0), at(1, "x", 0), into(1, 1, 0), remove(1))
	bare(t, d)
}

// R5: two documents share nothing.
func TestTwoDocuments(t *testing.T) {
	a, b := dom.New(), dom.New()
	does(t, a, create(1, "p"), at(1, "", 0), attr(1, "a", number(1)))
	bare(t, b)
	does(t, b, text(1, "x"), at(1, "y", 0))
	stand(t, a, "", with(host(1, "p"), field("a", number(1))))
	stand(t, b, "y", leaf(1, "x"))
	are(t, a, "")
	are(t, b, "y")
	does(t, b, remove(1))
	has(t, a, 1)
	has(t, b)
}

// everyKind is an op of each kind that could be done, or not, and of kinds that are none.
func everyKind() []api.Op {
	return []api.Op{create(1, "p"), text(1, "x"), write(1, "x"), attr(1, "a", number(1)), drop(1, "a"), at(1, "", 0), into(2, 1, 0), remove(1),
		{}, {Kind: 8}, {Kind: 255}, {Kind: api.OpCreate, Node: -1, Parent: 5}}
}

// R3: a document that is not there answers ErrNil, whatever is to be done, and else zero values; one that no call made likewise.
func TestNotThere(t *testing.T) {
	for why, d := range map[string]*dom.Doc{"nil": nil, "zero": {}} {
		for range 2 {
			for _, o := range everyKind() {
				if got := d.Do(o); got != api.ErrNil {
					t.Errorf("%s, %s: %d", why, tellOp(o), got)
				}
			}
			bare(t, d)
		}
	}
}
