package value_test

import (
	"testing"

	"tapestry/api"
	"tapestry/value"
)

// P1.4: Size and Deep.
func TestSizeAndDeep(t *testing.T) {
	wrap := func(v api.Value) api.Value { return list(v) }
	for i, c := range []struct {
		v          api.Value
		size, deep int
	}{
		{none(), 1, 1}, {number(9), 1, 1}, {text("abc"), 1, 1}, {list(), 1, 1}, {record(), 1, 1},
		{list(none()), 2, 2}, {list(none(), none()), 3, 2}, {list(list(none()), number(5)), 4, 3}, {list(number(5), list(none())), 4, 3},
		{record(named("a")...), 2, 2}, {record(field("a", list(none(), none())), field("b", none())), 5, 3},
		{record(field("a", none()), field("b", list(list()))), 4, 3},
		{elem(api.ElHost, "a", named("a", "b"), none(), none(), none()), 6, 2},
		{elem(api.ElHost, "a", []api.Field{field("a", list(list()))}, list()), 4, 3},
		{elem(api.ElHost, "a", []api.Field{field("a", none())}, list(list())), 4, 3},
		{elem(api.ElHost, "a", []api.Field{field("a", list(list()))}, none()), 4, 3},
		{deed(1, "A#0", field("a", deed(1, "A#0", field("b", list())))), 3, 3},
		{wide(api.MaxNodes), api.MaxNodes, 2}, {wide(100000), 100000, 2}, {record(fields(5000)...), 5001, 2},
		{nest(none(), 63, wrap), 64, 64}, {nest(none(), 64, wrap), 65, 65}, {nest(list(none(), none()), 10, wrap), 13, 12},
		// of any value
		{api.Value{Kind: 99}, 1, 1}, {api.Value{L: []api.Value{list(none())}, F: named("")}, 4, 3}, {full(), 6, 3},
		{api.Value{Kind: api.Text, F: []api.Field{field("b", none()), field("a", list(none()))}}, 4, 3},
		{api.Value{Kind: api.Int, L: []api.Value{{Kind: api.Bool, N: 7, L: []api.Value{{}}}}}, 3, 3},
		{list(text(long(5000)), truth(2)), 3, 2},
	} {
		if n := value.Size(c.v); n != c.size {
			t.Errorf("%d: Size is %d, not %d", i, n, c.size)
		}
		if n := value.Deep(c.v); n != c.deep {
			t.Errorf("%d: Deep is %d, not %d", i, n, c.deep)
		}
	}
}

// P1.4: in each way in which a value lies within another one, parts and depths add up.
func TestSizeAndDeepWithin(t *testing.T) {
	inner := list(none(), list(number(1), number(2)))
	for name, wrap := range wraps() {
		v := wrap(inner)
		extra := value.Size(wrap(none())) - 1
		if value.Size(v) != extra+value.Size(inner) || value.Size(inner) != 5 {
			t.Errorf("%s: Size is %d", name, value.Size(v))
		}
		if value.Deep(v) != 4 || value.Deep(wrap(v)) != 5 {
			t.Errorf("%s: Deep is %d", name, value.Deep(v))
		}
	}
}

// P1.1 and P1.4: what may be is at most so great.
func TestCheckedBySizeAndDeep(t *testing.T) {
	for _, v := range some() {
		if value.Check(v) && (value.Size(v) > api.MaxNodes || value.Deep(v) > api.MaxDeep) {
			t.Error("may be, and is too great")
		}
	}
}

// R1: far more parts nested than may be.
func TestFarTooDeep(t *testing.T) {
	for name, wrap := range wraps() {
		v := nest(none(), 1<<16-1, wrap)
		w := nest(none(), 1<<16-1, wrap)
		if value.Check(v) || value.Text(v) != "" || !value.Same(v, w) || value.Deep(v) != 1<<16 || value.Size(v) < 1<<16 {
			t.Error(name)
		}
		if value.Shallow(v, w) != (v.Kind == api.Record) {
			t.Errorf("%s: Shallow", name)
		}
	}
}
