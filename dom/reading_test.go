package dom_test

import (
	"maps"
	"slices"
	"testing"

	"tapestry/api"
	"tapestry/dom"
	"tapestry/value"
)

// A second reading of the chapter, with nothing that is linked: nodes do not know where they stand, rows are lists of numbers that are looked through.

// spot is where nodes stand: right within a host, or, if that is 0, right at a place.
type spot struct {
	parent int
	place  string
}

type thing struct {
	tag, text string
	attrs     map[string]api.Value
}

type reading struct {
	things map[int]thing
	rows   map[spot][]int
	log    []api.Op
}

func newReading() *reading {
	return &reading{things: map[int]thing{}, rows: map[spot][]int{}}
}

func (r *reading) copy() *reading {
	c := &reading{things: maps.Clone(r.things), rows: map[spot][]int{}, log: slices.Clone(r.log)}
	for s, l := range r.rows {
		c.rows[s] = slices.Clone(l)
	}
	return c
}

// where a node stands; false: nowhere.
func (r *reading) where(node int) (spot, bool) {
	for s, l := range r.rows {
		if slices.Contains(l, node) {
			return s, true
		}
	}
	return spot{}, false
}

// within: is a node the other one, or within it?
func (r *reading) within(node, other int) bool {
	for {
		if node == other {
			return true
		}
		s, stands := r.where(node)
		if !stands || s.parent == 0 {
			return false
		}
		node = s.parent
	}
}

func mayBeName(s string) bool { return len(s) >= 1 && len(s) <= api.MaxText }

func mayBeText(v api.Value) bool {
	return value.Same(v, api.Value{Kind: api.Text, S: v.S}) && len(v.S) <= api.MaxText
}

func mayBeAttr(v api.Value) bool {
	return value.Same(v, number(v.N)) || value.Same(v, truth(0)) || value.Same(v, truth(1)) || mayBeText(v)
}

// named: has the op no field, but Kind, Node and these, that is not zero?
func named(o api.Op, fields ...string) bool {
	zero := map[string]bool{"Parent": o.Parent == 0, "Place": o.Place == "", "Before": o.Before == 0, "Name": o.Name == "", "Value": value.Same(o.Value, none())}
	for field, isZero := range zero {
		if !isZero && !slices.Contains(fields, field) {
			return false
		}
	}
	return true
}

func (r *reading) do(o api.Op) api.Errno {
	errno := r.answer(o)
	if errno == api.OK {
		r.log = append(r.log, o)
	}
	return errno
}

// first answers the first error that holds.
func first(l ...any) api.Errno {
	for i := 0; i < len(l); i += 2 {
		if l[i+1].(bool) {
			return l[i].(api.Errno)
		}
	}
	return api.OK
}

func (r *reading) answer(o api.Op) api.Errno {
	it, there := r.things[o.Node]
	var errno api.Errno
	switch o.Kind {
	case api.OpCreate:
		errno = first(api.ErrArg, !named(o, "Name"), api.ErrArg, o.Node < 1 || there || !mayBeName(o.Name))
		it = thing{tag: o.Name}
	case api.OpText:
		errno = first(api.ErrArg, !named(o, "Value"), api.ErrArg, o.Node < 1 || there || !mayBeText(o.Value))
		it = thing{text: o.Value.S}
	case api.OpWrite:
		errno = first(api.ErrArg, !named(o, "Value"), api.ErrGone, !there, api.ErrArg, it.tag != "" || !mayBeText(o.Value))
		it.text = o.Value.S
	case api.OpAttr:
		errno = first(api.ErrArg, !named(o, "Name", "Value"), api.ErrGone, !there, api.ErrArg, it.tag == "" || !mayBeName(o.Name) || !mayBeAttr(o.Value))
		it.attrs = maps.Clone(it.attrs)
		if it.attrs == nil {
			it.attrs = map[string]api.Value{}
		}
		it.attrs[o.Name] = o.Value
	case api.OpDrop:
		_, hasIt := it.attrs[o.Name]
		errno = first(api.ErrArg, !named(o, "Name"), api.ErrGone, !there, api.ErrArg, it.tag == "", api.ErrGone, !hasIt)
		it.attrs = maps.Clone(it.attrs)
		delete(it.attrs, o.Name)
	case api.OpInsert:
		return r.insert(o)
	case api.OpRemove:
		if errno = first(api.ErrArg, !named(o), api.ErrGone, !there); errno == api.OK {
			r.takeOut(o.Node)
			r.remove(o.Node)
		}
		return errno
	default:
		return api.ErrArg
	}
	if errno == api.OK {
		r.things[o.Node] = it
	}
	return errno
}

func (r *reading) insert(o api.Op) api.Errno {
	_, there := r.things[o.Node]
	parent, parentThere := r.things[o.Parent]
	to := spot{o.Parent, o.Place}
	errno := first(
		api.ErrArg, !named(o, "Parent", "Place", "Before"),
		api.ErrGone, !there || o.Parent != 0 && !parentThere,
		api.ErrArg, o.Parent != 0 && o.Place != "" || len(o.Place) > api.MaxText,
		api.ErrArg, o.Parent != 0 && parent.tag == "" || o.Parent != 0 && r.within(o.Parent, o.Node) || o.Before == o.Node,
		api.ErrGone, o.Before != 0 && !slices.Contains(r.rows[to], o.Before))
	if errno == api.OK {
		r.takeOut(o.Node)
		place := len(r.rows[to])
		if o.Before != 0 {
			place = slices.Index(r.rows[to], o.Before)
		}
		r.rows[to] = slices.Insert(r.rows[to], place, o.Node)
	}
	return errno
}

func (r *reading) takeOut(node int) {
	for s, l := range r.rows {
		if i := slices.Index(l, node); i >= 0 {
			r.rows[s] = slices.Delete(l, i, i+1)
		}
	}
}

func (r *reading) remove(node int) {
	for _, kid := range r.rows[spot{parent: node}] {
		r.remove(kid)
	}
	delete(r.rows, spot{parent: node})
	delete(r.things, node)
}

func (r *reading) nodes(s spot) []api.Node {
	var l []api.Node
	for _, id := range r.rows[s] {
		it := r.things[id]
		n := api.Node{ID: id, Tag: it.tag, Text: it.text, Kids: r.nodes(spot{parent: id})}
		for _, name := range slices.Sorted(maps.Keys(it.attrs)) {
			n.Attrs = append(n.Attrs, field(name, it.attrs[name]))
		}
		l = append(l, n)
	}
	return l
}

func (r *reading) all() told {
	a := told{log: r.log}
	for s, l := range r.rows {
		if s.parent == 0 && len(l) > 0 {
			a.places = append(a.places, s.place)
		}
	}
	slices.Sort(a.places)
	for _, place := range a.places {
		a.nodes = append(a.nodes, r.nodes(spot{place: place}))
	}
	return a
}

// held: does the document tell what the second reading tells?
func (r *reading) held(t *testing.T, d *dom.Doc) {
	t.Helper()
	if got, want := all(d), r.all(); !got.same(want) {
		t.Errorf("%v, want %v", got, want)
	}
	for id := -2; id <= 40; id++ {
		if _, there := r.things[id]; d.Has(id) != there {
			t.Errorf("Has(%d) is %v", id, d.Has(id))
		}
	}
	apart(t, d)
}

// apart: has all that Nodes tells of all places unlike numbers, of which Has holds? Is it told of as hosts and texts are, by rising names?
func apart(t *testing.T, d *dom.Doc) {
	t.Helper()
	seen := map[int]bool{}
	var look func(l []api.Node)
	look = func(l []api.Node) {
		for _, n := range l {
			if seen[n.ID] || n.ID < 1 || !d.Has(n.ID) {
				t.Errorf("%d is told of, and Has is %v", n.ID, d.Has(n.ID))
			}
			seen[n.ID] = true
			if n.Tag == "" && len(n.Attrs)+len(n.Kids) > 0 || n.Tag != "" && n.Text != "" {
				t.Errorf("neither host nor text: %v", n)
			}
			for i := range n.Attrs {
				if i > 0 && n.Attrs[i-1].Name >= n.Attrs[i].Name || !mayBeName(n.Attrs[i].Name) || !mayBeAttr(n.Attrs[i].Value) {
					t.Errorf("no attributes are %v", n.Attrs)
				}
			}
			look(n.Kids)
		}
	}
	for _, place := range d.Places() {
		if len(d.Nodes(place)) == 0 {
			t.Errorf("no node at the place %.20q", place)
		}
		look(d.Nodes(place))
	}
}
