package dom_test

import (
	"testing"

	"tapestry/api"
	"tapestry/dom"
)

// deep is how deep hosts can lie within one another, by the bound to which the promises hold.
const deep = 1 << 16

// deepest answers how many nodes lie within one another, if each is the only one.
func deepest(l []api.Node) int {
	n := 0
	for len(l) == 1 {
		n++
		l = l[0].Kids
	}
	return n
}

// R1: hosts within one another, laid from within or from without.
func TestDeep(t *testing.T) {
	for why, lay := range map[string]func(d *dom.Doc, i int) api.Op{
		"from without": func(d *dom.Doc, i int) api.Op { return into(i+1, i, 0) },
		"from within":  func(d *dom.Doc, i int) api.Op { return into(deep-i+1, deep-i, 0) },
	} {
		t.Run(why, func(t *testing.T) {
			t.Parallel()
			d := dom.New()
			for i := range deep {
				does(t, d, create(i+1, "p"))
			}
			for i := 1; i < deep; i++ {
				does(t, d, lay(d, i))
			}
			does(t, d, at(1, "x", 0))
			if got := deepest(d.Nodes("x")); got != deep {
				t.Errorf("%d within one another", got)
			}
			refuses(t, d, api.ErrArg, into(1, deep, 0), into(2, deep, 0))
			does(t, d, at(deep/2+1, "y", 0))
			if x, y := deepest(d.Nodes("x")), deepest(d.Nodes("y")); x != deep/2 || y != deep/2 {
				t.Errorf("%d, %d within one another", x, y)
			}
			does(t, d, remove(1))
			if d.Has(2) || d.Has(deep/2) || !d.Has(deep/2+1) || !d.Has(deep) {
				t.Error("other ones are gone")
			}
			are(t, d, "y")
		})
	}
}

// R1: many in one row, put ahead of one another, moved, removed; a call ends soon.
func TestLongRow(t *testing.T) {
	t.Parallel()
	const n = 100000
	for _, kids := range []bool{false, true} {
		d, ahead, top := made(t, create(n+1, "p"), at(n+1, "x", 0)), 0, func(id, before int) api.Op { return at(id, "", before) }
		tell := func() []api.Node { return d.Nodes("") }
		if kids {
			top = func(id, before int) api.Op { return into(id, n+1, before) }
			tell = func() []api.Node { return d.Nodes("x")[0].Kids }
		}
		for id := 1; id <= n; id++ {
			does(t, d, text(id, ""), top(id, ahead))
			ahead = id
		}
		for i, node := range tell() {
			if node.ID != n-i {
				t.Fatalf("%d at the place %d", node.ID, i)
			}
		}
		// Each one to the end, from the front on, turns nothing round.
		for id := n; id >= 1; id-- {
			does(t, d, top(id, 0))
		}
		if l := tell(); len(l) != n || l[0].ID != n || l[n-1].ID != 1 {
			t.Errorf("%d, from %d to %d", len(l), l[0].ID, l[len(l)-1].ID)
		}
		for id := 1; id <= n; id += 2 {
			does(t, d, remove(id))
		}
		for i, node := range tell() {
			if node.ID != n-2*i {
				t.Fatalf("%d at the place %d", node.ID, i)
			}
		}
	}
}
