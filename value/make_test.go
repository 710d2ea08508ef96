package value_test

import (
	"strings"

	"tapestry/api"
)

// What the tests make values by.

func none() api.Value { return api.Value{} }

func number(n int64) api.Value { return api.Value{Kind: api.Int, N: n} }

func truth(n int64) api.Value { return api.Value{Kind: api.Bool, N: n} }

func text(s string) api.Value { return api.Value{Kind: api.Text, S: s} }

func list(l ...api.Value) api.Value { return api.Value{Kind: api.List, L: l} }

func record(l ...api.Field) api.Value { return api.Value{Kind: api.Record, F: l} }

func field(name string, v api.Value) api.Field { return api.Field{Name: name, Value: v} }

// named makes fields that are none, of these names.
func named(names ...string) []api.Field {
	var l []api.Field
	for _, name := range names {
		l = append(l, field(name, none()))
	}
	return l
}

func elem(k api.ElemKind, s string, f []api.Field, l ...api.Value) api.Value {
	return api.Value{Kind: api.Elem, Elem: k, S: s, F: f, L: l}
}

func keyed(v api.Value, key string) api.Value {
	v.HasKey, v.Key = true, key
	return v
}

func deed(n int64, site string, f ...api.Field) api.Value {
	return api.Value{Kind: api.Deed, N: n, S: site, F: f}
}

// long is a text of n bytes.
func long(n int) string { return strings.Repeat("x", n) }

// wide is a list of n parts in all.
func wide(n int) api.Value { return list(make([]api.Value, n-1)...) }

// fields are n names that rise, each with a value that is none.
func fields(n int) []api.Field {
	l := make([]api.Field, n)
	for i := range l {
		l[i].Name = string([]byte{'a' + byte(i/676), 'a' + byte(i/26%26), 'a' + byte(i%26)})
	}
	return l
}

// nest lays v within n others, each made by wrap.
func nest(v api.Value, n int, wrap func(api.Value) api.Value) api.Value {
	for range n {
		v = wrap(v)
	}
	return v
}

// wraps are all the ways in which a value lies right within another one.
func wraps() map[string]func(api.Value) api.Value {
	return map[string]func(api.Value) api.Value{
		"list":         func(v api.Value) api.Value { return list(v) },
		"list, behind": func(v api.Value) api.Value { return list(none(), v) },
		"list, ahead":  func(v api.Value) api.Value { return list(v, none()) },
		"record":       func(v api.Value) api.Value { return record(field("a", v)) },
		"record, last": func(v api.Value) api.Value { return record(field("a", none()), field("b", v)) },
		"attribute":    func(v api.Value) api.Value { return elem(api.ElHost, "a", []api.Field{field("a", v)}) },
		"child":        func(v api.Value) api.Value { return elem(api.ElFrag, "", nil, v) },
		"property":     func(v api.Value) api.Value { return elem(api.ElMemo, "A", []api.Field{field("a", v)}) },
		"given":        func(v api.Value) api.Value { return elem(api.ElGive, "c", []api.Field{field("value", v)}) },
		"deed":         func(v api.Value) api.Value { return deed(1, "A#0", field("a", v)) },
	}
}

// deepCopy shares nothing with v.
func deepCopy(v api.Value) api.Value {
	if v.L != nil {
		v.L = append([]api.Value{}, v.L...)
		for i := range v.L {
			v.L[i] = deepCopy(v.L[i])
		}
	}
	if v.F != nil {
		v.F = append([]api.Field{}, v.F...)
		for i := range v.F {
			v.F[i].Value = deepCopy(v.F[i].Value)
		}
	}
	return v
}
