package dom_test

import (
	"testing"

	"tapestry/api"
	"tapestry/dom"
)

// P10.2: a kind that is none of these.
func TestKindsThatThereAreNot(t *testing.T) {
	d := made(t, create(1, "p"), text(2, "x"), at(1, "", 0))
	for k := range 256 {
		if k >= int(api.OpCreate) && k <= int(api.OpWrite) {
			continue
		}
		kind := api.OpKind(k)
		refuses(t, d, api.ErrArg, api.Op{Kind: kind}, api.Op{Kind: kind, Node: 1}, api.Op{Kind: kind, Node: 3, Name: "p"},
			api.Op{Kind: kind, Node: 9, Value: words("x")}, api.Op{Kind: kind, Node: 1, Name: "a", Value: number(1)}, api.Op{Kind: kind, Node: 2, Parent: 1})
	}
	has(t, d, 1, 2)
}

// set is a field of an op, filled.
type set struct {
	name string
	fill func(o *api.Op)
}

// sets fill each field of an op that not all rows name, in each way.
func sets() []set {
	l := []set{
		{"Parent", func(o *api.Op) { o.Parent = 1 }}, {"Parent", func(o *api.Op) { o.Parent = -1 }}, {"Parent", func(o *api.Op) { o.Parent = 1 << 32 }},
		{"Place", func(o *api.Op) { o.Place = "x" }}, {"Place", func(o *api.Op) { o.Place = long(api.MaxText + 1) }},
		{"Before", func(o *api.Op) { o.Before = 4 }}, {"Before", func(o *api.Op) { o.Before = -1 }}, {"Before", func(o *api.Op) { o.Before = 1 << 40 }},
		{"Name", func(o *api.Op) { o.Name = "a" }}, {"Name", func(o *api.Op) { o.Name = long(api.MaxText + 1) }},
	}
	// Of a value each field by itself, too: such a one may not be, but it is not zero.
	for _, v := range []api.Value{number(0), number(1), truth(0), words(""), words("x"), listOf(0), listOf(1), element(1), {Kind: 99},
		{N: 1}, {S: "x"}, {L: make([]api.Value, 1)}, {F: make([]api.Field, 1)}, {Elem: api.ElHost}, {Key: "k"}, {HasKey: true}} {
		l = append(l, set{"Value", func(o *api.Op) { o.Value = v }})
	}
	return l
}

// P10.2: ErrArg, if a field that the kind's row does not name is not zero; each op can be done without it.
func TestFieldsThatARowDoesNotName(t *testing.T) {
	doc := func() *dom.Doc {
		return made(t, create(1, "p"), text(2, "x"), create(4, "q"), text(5, "y"), at(1, "", 0), at(4, "", 0), at(5, "x", 0), attr(1, "a", number(1)))
	}
	for _, c := range []struct {
		o     api.Op
		named map[string]bool
	}{
		{create(3, "p"), map[string]bool{"Name": true}},
		{text(3, "x"), map[string]bool{"Value": true}},
		{write(2, "y"), map[string]bool{"Value": true}},
		{attr(1, "b", truth(1)), map[string]bool{"Name": true, "Value": true}},
		{drop(1, "a"), map[string]bool{"Name": true}},
		{at(2, "", 0), map[string]bool{"Parent": true, "Place": true, "Before": true}},
		{into(2, 1, 0), map[string]bool{"Parent": true, "Place": true, "Before": true}},
		{remove(2), nil},
	} {
		for _, s := range sets() {
			if c.named[s.name] {
				continue
			}
			d, o := doc(), c.o
			s.fill(&o)
			refuses(t, d, api.ErrArg, o)
			// It goes ahead of the row's errors.
			o.Node = 77
			refuses(t, d, api.ErrArg, o)
			o.Node = -1
			refuses(t, d, api.ErrArg, o)
			does(t, d, c.o)
		}
	}
}

// R4: a Value whose lists are empty is zero as well as one whose lists are nil, wherever none is named.
func TestEmptyValueIsZero(t *testing.T) {
	empty := api.Value{L: []api.Value{}, F: make([]api.Field, 0, 3)}
	d := dom.New()
	for _, o := range []api.Op{create(1, "p"), create(2, "p"), at(1, "", 0), into(2, 1, 0), at(2, "x", 0), remove(2)} {
		o.Value = empty
		does(t, d, o)
	}
	does(t, d, attr(1, "a", number(1)))
	o := drop(1, "a")
	o.Value = empty
	does(t, d, o)
	stand(t, d, "", host(1, "p"))
	if got := d.Log(); !sameOps(got, []api.Op{create(1, "p"), create(2, "p"), at(1, "", 0), into(2, 1, 0), at(2, "x", 0), remove(2),
		attr(1, "a", number(1)), drop(1, "a")}) {
		t.Errorf("log %v", got)
	}
}
