package norm_test

import (
	"fmt"
	"testing"

	"tapestry/api"
	"tapestry/norm"
)

// P7.1: the chapter's examples.
func TestExamples(t *testing.T) {
	p, q, r := host("p"), host("q"), host("r")
	comes(t, of(none(), truth(1), text("a"), number(5), record(field("a", number(1)))), shown("i:2", "a"), shown("i:3", "5"))
	comes(t, of(list(p, list(none(), q)), r), kid("i:0", p), kid("i:2", q), kid("i:3", r))
	px, qx, ry := keyed(p, "x"), keyed(q, "x"), keyed(r, "y")
	comes(t, of(px, qx, ry), kid("k:x", px), kid("i:1", qx), kid("k:y", ry))
	p1 := keyed(p, "1")
	comes(t, of(p1, q), kid("k:1", p1), kid("i:1", q))
	var want []api.Child
	for i := range 4096 {
		want = append(want, shown(fmt.Sprint("i:", i), "a"))
	}
	comes(t, times(4097, text("a")), want...)
}

// P7.2: the chapter's examples.
func TestExamplesOfAlike(t *testing.T) {
	kids := norm.Kids(of(host("div"), host("p"), text("x"), text("y"), host("a"), elem(api.ElComp, "a")))
	for i, want := range []bool{false, true, false} {
		if norm.Alike(kids[2*i], kids[2*i+1]) != want {
			t.Errorf("%v and %v: not %v", kids[2*i], kids[2*i+1], want)
		}
	}
}

// P7.1: of no values there are no children, whatever says that there are none.
func TestNothing(t *testing.T) {
	comes(t, nil)
	comes(t, of())
	comes(t, times(3, list())[:0])
	comes(t, of(list()))
	comes(t, of(list(), list(list(), list(list()))))
	comes(t, of(none()))
	comes(t, of(list(none(), list(truth(1)), record())))
}
