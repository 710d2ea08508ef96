package dom

import "tapestry/api"

// What deeds do to the document beyond one node and one row.

// isFree: may a new node have that number?
func (d *Doc) isFree(id int) bool { return id >= 1 && d.nodes[id] == nil }

// add makes a node that stands nowhere.
func (d *Doc) add(told api.Node) {
	n := &node{Node: told}
	n.kids.host = n
	d.nodes[n.ID] = n
}

// rowOf a host, or, if that is none, of a place, which is one from now on.
func (d *Doc) rowOf(host *node, place string) *row {
	if host != nil {
		return &host.kids
	}
	r := d.places[place]
	if r == nil {
		r = &row{place: place}
		d.places[place] = r
	}
	return r
}

// takeOut leaves a node standing nowhere; a place at which it was the only one is none any more.
func (d *Doc) takeOut(n *node) {
	r := n.in
	if r == nil {
		return
	}
	r.take(n)
	if r.host == nil && r.first == nil {
		delete(d.places, r.place)
	}
}

// forget lets a node go that stands nowhere, with all that is within it.
func (d *Doc) forget(n *node) {
	delete(d.nodes, n.ID)
	for kid := n.kids.first; kid != nil; kid = kid.behind {
		d.forget(kid)
	}
}
