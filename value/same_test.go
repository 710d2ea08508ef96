package value_test

import (
	"testing"

	"tapestry/api"
	"tapestry/value"
)

// full has something in each field; it may not be.
func full() api.Value {
	return api.Value{Kind: api.Elem, N: 3, S: "s", L: []api.Value{number(1), text("a")}, F: []api.Field{field("b", none()), field("a", list(number(2)))},
		Elem: api.ElHost, Key: "k", HasKey: true}
}

// P1.2: one field that is another one is enough, at any depth.
func TestSameEachField(t *testing.T) {
	changes := map[string]func(v *api.Value){
		"Kind":                  func(v *api.Value) { v.Kind = api.Record },
		"Kind that is none":     func(v *api.Value) { v.Kind = 200 },
		"N":                     func(v *api.Value) { v.N = 4 },
		"N, its high half":      func(v *api.Value) { v.N += 1 << 32 },
		"S":                     func(v *api.Value) { v.S = "t" },
		"S, longer":             func(v *api.Value) { v.S = "s\x00" },
		"Elem":                  func(v *api.Value) { v.Elem = api.ElComp },
		"Key":                   func(v *api.Value) { v.Key = "l" },
		"HasKey":                func(v *api.Value) { v.HasKey = false },
		"L, none":               func(v *api.Value) { v.L = nil },
		"L, shorter":            func(v *api.Value) { v.L = v.L[:1] },
		"L, longer":             func(v *api.Value) { v.L = append(v.L, none()) },
		"L, in another order":   func(v *api.Value) { v.L[0], v.L[1] = v.L[1], v.L[0] },
		"L, its first value":    func(v *api.Value) { v.L[0].N = 2 },
		"L, its last value":     func(v *api.Value) { v.L[1].S = "b" },
		"F, none":               func(v *api.Value) { v.F = nil },
		"F, shorter":            func(v *api.Value) { v.F = v.F[:1] },
		"F, longer":             func(v *api.Value) { v.F = append(v.F, field("c", none())) },
		"F, in another order":   func(v *api.Value) { v.F[0], v.F[1] = v.F[1], v.F[0] },
		"F, its first name":     func(v *api.Value) { v.F[0].Name = "c" },
		"F, its last name":      func(v *api.Value) { v.F[1].Name = "" },
		"F, its first value":    func(v *api.Value) { v.F[0].Value.N = 1 },
		"F, deep in its value":  func(v *api.Value) { v.F[1].Value.L[0].N = 3 },
		"F, exchanged values":   func(v *api.Value) { v.F[0].Value, v.F[1].Value = v.F[1].Value, v.F[0].Value },
		"F, a deep one's field": func(v *api.Value) { v.F[1].Value.L[0].Key = "x" },
	}
	if !value.Same(full(), full()) {
		t.Fatal("a value is not the same as itself")
	}
	for name, change := range changes {
		v := deepCopy(full())
		change(&v)
		if value.Same(full(), v) || value.Same(v, full()) {
			t.Errorf("%s: the same", name)
		}
		if !value.Same(v, deepCopy(v)) {
			t.Errorf("%s: not the same as itself", name)
		}
		for way, wrap := range wraps() {
			if value.Same(wrap(full()), wrap(v)) || !value.Same(wrap(v), wrap(deepCopy(v))) {
				t.Errorf("%s in a %s", name, way)
			}
		}
	}
}

func TestSame(t *testing.T) {
	for i, c := range []struct {
		a, b api.Value
		same bool
	}{
		{none(), none(), true}, {none(), truth(0), false}, {number(0), truth(0), false}, {number(1), truth(1), false},
		{number(1), text("1"), false}, {text(""), none(), false}, {list(), none(), false}, {list(), record(), false},
		{text("a"), text("A"), false}, {text("\xff"), text("\xfe"), false}, {text("\xff"), text("\ufffd"), false},
		{list(none()), list(), false}, {list(list()), list(none()), false}, {list(number(1), number(2)), list(number(2), number(1)), false},
		{list(list(number(1)), number(2)), list(list(number(1), number(2))), false},
		{keyed(elem(api.ElFrag, "", nil), ""), elem(api.ElFrag, "", nil), false},
		{elem(api.ElComp, "A", nil), elem(api.ElMemo, "A", nil), false},
		{deed(1, "A#0"), deed(2, "A#0"), false}, {deed(1, "A#0"), deed(1, "A#1"), false}, {deed(1, "A#0"), deed(1, "A#0", field("x", none())), false},
		{api.Value{Kind: 99}, api.Value{Kind: 99}, true}, {api.Value{Kind: 99}, api.Value{Kind: 98}, false},
		{api.Value{N: 1}, api.Value{N: 1}, true}, {api.Value{N: 1}, api.Value{}, false},
	} {
		if value.Same(c.a, c.b) != c.same || value.Same(c.b, c.a) != c.same {
			t.Errorf("%d: not %v", i, c.same)
		}
	}
}

// R4: empty and nil mean the same.
func TestSameEmptyLists(t *testing.T) {
	a := list(record(), list(), elem(api.ElFrag, "", nil))
	b := deepCopy(a)
	for i := range b.L {
		b.L[i].L, b.L[i].F = []api.Value{}, []api.Field{}
	}
	b.F = make([]api.Field, 0, 5)
	if !value.Same(a, b) || !value.Same(b, a) {
		t.Error("Same")
	}
	c := api.Value{Kind: api.Record, F: []api.Field{}}
	if !value.Shallow(record(), c) || !value.Shallow(c, record()) {
		t.Error("Shallow")
	}
}

// P1.2: Shallow.
func TestShallow(t *testing.T) {
	a := record(field("a", number(1)))
	ab := record(field("a", number(1)), field("b", list(text("x"))))
	for i, c := range []struct {
		a, b api.Value
		same bool
	}{
		{a, a, true}, {a, none(), false}, {record(), record(), true}, {a, record(), false}, {a, ab, false}, {ab, ab, true},
		{ab, record(field("a", number(1)), field("b", list(text("x")))), true},
		{ab, record(field("a", number(1)), field("b", list(text("y")))), false},
		{ab, record(field("a", number(2)), field("b", list(text("x")))), false},
		{ab, record(field("a", number(1)), field("c", list(text("x")))), false},
		{ab, record(field("b", list(text("x"))), field("a", number(1))), false},
		{record(named("b", "a")...), record(named("b", "a")...), true},
		{record(named("a", "a")...), record(named("a", "a")...), true},
		{record(named("")...), record(named("")...), true},
		{a, record(field("a", truth(1))), false}, {a, record(field("a", api.Value{Kind: api.Int, N: 1, S: "x"})), false},
		{none(), none(), false}, {number(1), number(1), false}, {list(), list(), false}, {list(number(1)), list(number(1)), false}, {record(), none(), false},
		{deed(1, "A#0", a.F...), deed(1, "A#0", a.F...), false}, {elem(api.ElHost, "a", a.F), elem(api.ElHost, "a", a.F), false},
		{a, elem(api.ElHost, "a", a.F), false}, {a, api.Value{F: a.F}, false}, {a, api.Value{Kind: 77, F: a.F}, false},
	} {
		if value.Shallow(c.a, c.b) != c.same || value.Shallow(c.b, c.a) != c.same {
			t.Errorf("%d: not %v", i, c.same)
		}
	}
}

// P1.2: whatever the other fields of both are.
func TestShallowOtherFields(t *testing.T) {
	a := record(field("a", number(1)))
	for name, change := range map[string]func(v *api.Value){
		"N": func(v *api.Value) { v.N = 1 }, "S": func(v *api.Value) { v.S = "x" }, "L": func(v *api.Value) { v.L = []api.Value{none()} },
		"Elem": func(v *api.Value) { v.Elem = api.ElHost }, "Key": func(v *api.Value) { v.Key = "k" }, "HasKey": func(v *api.Value) { v.HasKey = true },
	} {
		b := a
		change(&b)
		if !value.Shallow(a, b) || !value.Shallow(b, a) || !value.Shallow(b, b) {
			t.Errorf("%s makes a difference", name)
		}
		if value.Same(a, b) {
			t.Errorf("%s makes no difference to Same", name)
		}
		c := record(field("a", b))
		if value.Shallow(c, record(field("a", a))) {
			t.Errorf("%s makes no difference within a field", name)
		}
	}
}
