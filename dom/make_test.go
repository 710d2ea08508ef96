package dom_test

import (
	"fmt"
	"slices"
	"strings"
	"testing"

	"tapestry/api"
	"tapestry/dom"
	"tapestry/value"
)

// What the tests make values, ops and nodes by.

func none() api.Value             { return api.Value{} }
func number(n int64) api.Value    { return api.Value{Kind: api.Int, N: n} }
func truth(n int64) api.Value     { return api.Value{Kind: api.Bool, N: n} }
func words(s string) api.Value    { return api.Value{Kind: api.Text, S: s} }
func long(n int) string           { return strings.Repeat("x", n) }
func listOf(n int) api.Value      { return api.Value{Kind: api.List, L: make([]api.Value, n)} }
func element(k int) api.Value     { return api.Value{Kind: api.Elem, Elem: api.ElemKind(k), S: "p"} }
func places(l ...string) []string { return l }

func create(node int, tag string) api.Op { return api.Op{Kind: api.OpCreate, Node: node, Name: tag} }
func text(node int, s string) api.Op     { return api.Op{Kind: api.OpText, Node: node, Value: words(s)} }
func write(node int, s string) api.Op    { return api.Op{Kind: api.OpWrite, Node: node, Value: words(s)} }
func drop(node int, name string) api.Op  { return api.Op{Kind: api.OpDrop, Node: node, Name: name} }
func remove(node int) api.Op             { return api.Op{Kind: api.OpRemove, Node: node} }

func attr(node int, name string, v api.Value) api.Op {
	return api.Op{Kind: api.OpAttr, Node: node, Name: name, Value: v}
}

// into a host, ahead of another node; 0: at the end.
func into(node, host, before int) api.Op {
	return api.Op{Kind: api.OpInsert, Node: node, Parent: host, Before: before}
}

// at a place, ahead of another node; 0: at the end.
func at(node int, place string, before int) api.Op {
	return api.Op{Kind: api.OpInsert, Node: node, Place: place, Before: before}
}

// host is a node as it is told of, with these nodes within it.
func host(id int, tag string, kids ...api.Node) api.Node {
	return api.Node{ID: id, Tag: tag, Kids: kids}
}

// leaf is a text as it is told of.
func leaf(id int, s string) api.Node { return api.Node{ID: id, Text: s} }

// with is a host with these attributes.
func with(n api.Node, l ...api.Field) api.Node {
	n.Attrs = l
	return n
}

func field(name string, v api.Value) api.Field { return api.Field{Name: name, Value: v} }

func sameNode(a, b api.Node) bool {
	return a.ID == b.ID && a.Tag == b.Tag && a.Text == b.Text && sameFields(a.Attrs, b.Attrs) && sameNodes(a.Kids, b.Kids)
}

func sameNodes(a, b []api.Node) bool { return slices.EqualFunc(a, b, sameNode) }

func sameFields(a, b []api.Field) bool {
	return slices.EqualFunc(a, b, func(x, y api.Field) bool { return x.Name == y.Name && value.Same(x.Value, y.Value) })
}

func sameOps(a, b []api.Op) bool {
	return slices.EqualFunc(a, b, func(x, y api.Op) bool {
		return x.Kind == y.Kind && x.Node == y.Node && x.Parent == y.Parent && x.Place == y.Place && x.Before == y.Before &&
			x.Name == y.Name && value.Same(x.Value, y.Value)
	})
}

// made is a document to which all of these were done.
func made(t testing.TB, l ...api.Op) *dom.Doc {
	t.Helper()
	d := dom.New()
	does(t, d, l...)
	return d
}

// does: can all of these be done, one behind the other?
func does(t testing.TB, d *dom.Doc, l ...api.Op) {
	t.Helper()
	for i, o := range l {
		if got := d.Do(o); got != api.OK {
			t.Errorf("%d, %s: %d", i, tellOp(o), got)
		}
	}
}

// refuses: is the answer of each of these that error, and the document behind them what it was?
func refuses(t *testing.T, d *dom.Doc, want api.Errno, l ...api.Op) {
	t.Helper()
	before := all(d)
	for _, o := range l {
		if got := d.Do(o); got != want {
			t.Errorf("%s: %d, want %d", tellOp(o), got, want)
		}
	}
	if behind := all(d); !behind.same(before) {
		t.Errorf("changed by what was refused: %v, want %v", behind, before)
	}
}

// stand: are these the nodes of the place, and no others?
func stand(t testing.TB, d *dom.Doc, place string, want ...api.Node) {
	t.Helper()
	if got := d.Nodes(place); !sameNodes(got, want) {
		t.Errorf("nodes of %.20q: %v, want %v", place, got, want)
	}
}

// are: are these the places?
func are(t testing.TB, d *dom.Doc, want ...string) {
	t.Helper()
	if got := d.Places(); !slices.Equal(got, want) {
		t.Errorf("places %.20q, want %.20q", got, want)
	}
}

// has: are there nodes of just these numbers, of those from -2 to 40?
func has(t testing.TB, d *dom.Doc, want ...int) {
	t.Helper()
	for id := -2; id <= 40; id++ {
		if got := d.Has(id); got != slices.Contains(want, id) {
			t.Errorf("Has(%d) is %v", id, got)
		}
	}
}

// told is all that a document tells, but for numbers of nodes that stand nowhere.
type told struct {
	places []string
	nodes  [][]api.Node
	log    []api.Op
}

func all(d *dom.Doc) told {
	a := told{places: d.Places(), log: d.Log()}
	for _, place := range a.places {
		a.nodes = append(a.nodes, d.Nodes(place))
	}
	return a
}

func (a told) same(b told) bool {
	return slices.Equal(a.places, b.places) && slices.EqualFunc(a.nodes, b.nodes, sameNodes) && sameOps(a.log, b.log)
}

// tellOp is a short form of an op.
func tellOp(o api.Op) string {
	kinds := []string{"none", "create", "text", "attr", "drop", "insert", "remove", "write"}
	kind := fmt.Sprint("kind ", o.Kind)
	if int(o.Kind) < len(kinds) {
		kind = kinds[o.Kind]
	}
	return fmt.Sprintf("%s %d parent %d place %.20q before %d name %.20q value %.20q of kind %d", kind, o.Node, o.Parent, o.Place, o.Before,
		o.Name, value.Text(o.Value), o.Value.Kind)
}
