package dom

import (
	"tapestry/api"
	"tapestry/value"
)

// fields of an op that its kind's row names, beside Node, which each row names; stands: Parent, Place and Before.
type fields struct{ name, value, stands bool }

// rows stand at the numbers of the kinds.
var rows = [...]fields{
	api.OpCreate: {name: true},
	api.OpText:   {value: true},
	api.OpWrite:  {value: true},
	api.OpAttr:   {name: true, value: true},
	api.OpDrop:   {name: true},
	api.OpInsert: {stands: true},
	api.OpRemove: {},
}

// inRow: is it of a kind that has a row, and without any field that the row does not name?
func inRow(o *api.Op) bool {
	if o.Kind == api.OpNone || int(o.Kind) >= len(rows) {
		return false
	}
	r := rows[o.Kind]
	return (r.name || o.Name == "") &&
		(r.value || value.Same(o.Value, api.Value{})) &&
		(r.stands || o.Parent == 0 && o.Place == "" && o.Before == 0)
}

// What follows is done, or answers why not, with nothing changed.

func (d *Doc) create(o *api.Op) api.Errno {
	if !d.isFree(o.Node) || !isName(o.Name) {
		return api.ErrArg
	}
	d.add(api.Node{ID: o.Node, Tag: o.Name})
	return api.OK
}

func (d *Doc) text(o *api.Op) api.Errno {
	if !d.isFree(o.Node) || !isText(o.Value) {
		return api.ErrArg
	}
	d.add(api.Node{ID: o.Node, Text: o.Value.S})
	return api.OK
}

func (d *Doc) write(o *api.Op) api.Errno {
	n := d.nodes[o.Node]
	if n == nil {
		return api.ErrGone
	}
	if n.isHost() || !isText(o.Value) {
		return api.ErrArg
	}
	n.Text = o.Value.S
	return api.OK
}

func (d *Doc) attr(o *api.Op) api.Errno {
	n := d.nodes[o.Node]
	if n == nil {
		return api.ErrGone
	}
	if !n.isHost() || !isName(o.Name) || !isPlain(o.Value) {
		return api.ErrArg
	}
	n.set(o.Name, o.Value)
	return api.OK
}

func (d *Doc) drop(o *api.Op) api.Errno {
	n := d.nodes[o.Node]
	if n == nil {
		return api.ErrGone
	}
	if !n.isHost() {
		return api.ErrArg
	}
	if !n.unset(o.Name) {
		return api.ErrGone
	}
	return api.OK
}

func (d *Doc) insert(o *api.Op) api.Errno {
	// No node has the number 0: at a place there is no host, and at the end nothing to stand ahead of.
	n, host, before := d.nodes[o.Node], d.nodes[o.Parent], d.nodes[o.Before]
	if n == nil || o.Parent != 0 && host == nil {
		return api.ErrGone
	}
	if host != nil && (o.Place != "" || !host.isHost() || n.holds(host)) {
		return api.ErrArg
	}
	if len(o.Place) > api.MaxText || before == n {
		return api.ErrArg
	}
	if o.Before != 0 && (before == nil || !before.standsIn(host, o.Place)) {
		return api.ErrGone
	}
	// Only behind this the row is looked for: a place's is let go with the last node that stood there.
	d.takeOut(n)
	d.rowOf(host, o.Place).put(n, before)
	return api.OK
}

func (d *Doc) remove(o *api.Op) api.Errno {
	n := d.nodes[o.Node]
	if n == nil {
		return api.ErrGone
	}
	d.takeOut(n)
	d.forget(n)
	return api.OK
}

func isName(s string) bool { return 0 < len(s) && len(s) <= api.MaxText }

// isText: is it a Text that may be?
func isText(v api.Value) bool { return v.Kind == api.Text && value.Check(v) }

// isPlain: is it of the kinds that attributes have, and may it be?
func isPlain(v api.Value) bool {
	switch v.Kind {
	case api.Int, api.Bool, api.Text:
		return value.Check(v)
	}
	return false
}
