package oper_test

import (
	"strings"
	"testing"

	"tapestry/api"
	"tapestry/oper"
	"tapestry/value"
)

// What the tests make values by.

func none() api.Value { return api.Value{} }

func number(n int64) api.Value { return api.Value{Kind: api.Int, N: n} }

func yes() api.Value { return api.Value{Kind: api.Bool, N: 1} }

func no() api.Value { return api.Value{Kind: api.Bool} }

func text(s string) api.Value { return api.Value{Kind: api.Text, S: s} }

func list(l ...api.Value) api.Value { return api.Value{Kind: api.List, L: l} }

func record(l ...api.Field) api.Value { return api.Value{Kind: api.Record, F: l} }

func field(name string, v api.Value) api.Field { return api.Field{Name: name, Value: v} }

func host(f []api.Field, l ...api.Value) api.Value {
	return api.Value{Kind: api.Elem, Elem: api.ElHost, S: "div", F: f, L: l}
}

func deed(f ...api.Field) api.Value { return api.Value{Kind: api.Deed, N: 7, S: "App#0", F: f} }

// long is a text of n bytes.
func long(n int) api.Value { return text(strings.Repeat("x", n)) }

// wide is a list of n parts in all.
func wide(n int) api.Value { return list(make([]api.Value, n-1)...) }

// deep is a list that is n deep.
func deep(n int) api.Value {
	v := list()
	for range n - 1 {
		v = list(v)
	}
	return v
}

// kinds have one value or more of each kind.
func kinds() map[api.Kind][]api.Value {
	return map[api.Kind][]api.Value{
		api.None:   {none()},
		api.Int:    {number(0), number(1), number(-7)},
		api.Bool:   {no(), yes()},
		api.Text:   {text(""), text("a"), text("ab")},
		api.List:   {list(), list(number(1), text("a"))},
		api.Record: {record(), record(field("a", number(1)))},
		api.Elem:   {host(nil), host([]api.Field{field("a", number(1))}, text("hi"))},
		api.Deed:   {deed(), deed(field("a", number(1)))},
	}
}

// bad are values that may not be.
func bad() map[string]api.Value {
	return map[string]api.Value{
		"Int with S":             {Kind: api.Int, N: 1, S: "x"},
		"Int with L":             {Kind: api.Int, N: 1, L: []api.Value{none()}},
		"Bool 2":                 {Kind: api.Bool, N: 2},
		"Bool -1":                {Kind: api.Bool, N: -1},
		"Text with N":            {Kind: api.Text, S: "a", N: 1},
		"Text, too long":         long(api.MaxText + 1),
		"List with F":            {Kind: api.List, F: []api.Field{field("a", none())}},
		"List of a Bool 2":       list(number(1), api.Value{Kind: api.Bool, N: 2}),
		"List, too deep":         deep(api.MaxDeep + 1),
		"List, too great":        wide(api.MaxNodes + 1),
		"Record, fields falling": record(field("b", none()), field("a", none())),
		"Record, fields alike":   record(field("a", number(1)), field("a", number(1))),
		"Record, no name":        record(field("", none())),
		"Elem of no kind":        {Kind: api.Elem, S: "a"},
		"Elem without a tag":     {Kind: api.Elem, Elem: api.ElHost},
		"None with Key":          {Key: "k"},
		"Deed with Elem":         {Kind: api.Deed, N: 7, S: "App#0", Elem: api.ElHost},
		"no Kind":                {Kind: 8},
		"no Kind, the last":      {Kind: 255},
	}
}

// comes: does the operation answer just this?
func comes(t *testing.T, want api.Value, name string, args ...api.Value) {
	t.Helper()
	v, ok := oper.Do(name, args)
	if !ok || !value.Same(v, want) || !value.Check(v) {
		t.Errorf("%s of %.200s: %.200s, %v, want %.200s", name, tell(args), tell([]api.Value{v}), ok, value.Text(want))
	}
}

// fails: does the operation answer a zero value and false?
func fails(t *testing.T, name string, args ...api.Value) {
	t.Helper()
	v, ok := oper.Do(name, args)
	if ok || !value.Same(v, api.Value{}) {
		t.Errorf("%s of %.200s: %.200s, %v, want none, false", name, tell(args), tell([]api.Value{v}), ok)
	}
}

func tell(l []api.Value) string {
	var all []string
	for _, v := range l {
		all = append(all, value.Text(v))
	}
	return strings.Join(all, ", ")
}

// deepCopy shares nothing with v.
func deepCopy(v api.Value) api.Value {
	v.L = append([]api.Value(nil), v.L...)
	for i := range v.L {
		v.L[i] = deepCopy(v.L[i])
	}
	v.F = append([]api.Field(nil), v.F...)
	for i := range v.F {
		v.F[i].Value = deepCopy(v.F[i].Value)
	}
	return v
}
