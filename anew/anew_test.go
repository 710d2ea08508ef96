package anew_test

import (
	"testing"

	"tapestry/anew"
	"tapestry/api"
	"tapestry/value"
)

// rooms counts by how many lists of v each place of memory is reached, spare room too.
type rooms struct {
	values map[*api.Value]int
	fields map[*api.Field]int
}

func (r rooms) look(v api.Value) {
	l, f := v.L[:cap(v.L)], v.F[:cap(v.F)]
	for i := range l {
		r.values[&l[i]]++
	}
	for i := range f {
		r.fields[&f[i]]++
	}
	for i := range v.L {
		r.look(v.L[i])
	}
	for i := range v.F {
		r.look(v.F[i].Value)
	}
}

// one has each field set somewhere, lists that share memory, and spare room.
func one() api.Value {
	inner := append(make([]api.Value, 0, 4), api.Value{Kind: api.Int, N: 5}, api.Value{Kind: api.Text, S: "a"})
	fields := append(make([]api.Field, 0, 4), api.Field{Name: "x", Value: api.Value{Kind: api.List, L: inner}})
	elem := api.Value{Kind: api.Elem, Elem: api.ElHost, S: "div", HasKey: true, Key: "k", F: fields, L: inner}
	return api.Value{Kind: api.List, N: 1, S: "s", F: fields, L: []api.Value{elem, elem, {Kind: api.Record, F: fields}, {Kind: api.List, L: inner[:1]}}}
}

// R4: the same, in memory of its own; what it was made of is left as it was.
func TestValue(t *testing.T) {
	v := one()
	got, again := anew.Value(v), anew.Value(v)
	if !value.Same(got, one()) || !value.Same(again, one()) || !value.Same(v, one()) {
		t.Errorf("%v of %v", got, v)
	}
	r := rooms{map[*api.Value]int{}, map[*api.Field]int{}}
	r.look(got)
	r.look(again)
	for _, n := range r.values {
		if n > 1 {
			t.Errorf("a place of a list is reached %d times", n)
		}
	}
	for _, n := range r.fields {
		if n > 1 {
			t.Errorf("a place of a field is reached %d times", n)
		}
	}
	given := rooms{map[*api.Value]int{}, map[*api.Field]int{}}
	given.look(v)
	for p := range given.values {
		if r.values[p] > 0 {
			t.Error("a list is shared")
		}
	}
	for p := range given.fields {
		if r.fields[p] > 0 {
			t.Error("fields are shared")
		}
	}
}

// Of nothing there is nothing.
func TestZero(t *testing.T) {
	if v := anew.Value(api.Value{}); !value.Same(v, api.Value{}) {
		t.Errorf("%v", v)
	}
}
