package norm_test

import (
	"fmt"
	"testing"

	"tapestry/api"
	"tapestry/norm"
	"tapestry/value"
)

// What the tests make values and children by.

func none() api.Value { return api.Value{} }

func number(n int64) api.Value { return api.Value{Kind: api.Int, N: n} }

func truth(n int64) api.Value { return api.Value{Kind: api.Bool, N: n} }

func text(s string) api.Value { return api.Value{Kind: api.Text, S: s} }

func list(l ...api.Value) api.Value { return api.Value{Kind: api.List, L: l} }

func record(l ...api.Field) api.Value { return api.Value{Kind: api.Record, F: l} }

func field(name string, v api.Value) api.Field { return api.Field{Name: name, Value: v} }

func elem(k api.ElemKind, s string, l ...api.Value) api.Value {
	return api.Value{Kind: api.Elem, Elem: k, S: s, L: l}
}

func host(tag string, l ...api.Value) api.Value { return elem(api.ElHost, tag, l...) }

func keyed(v api.Value, key string) api.Value {
	v.HasKey, v.Key = true, key
	return v
}

func deed(l ...api.Field) api.Value {
	return api.Value{Kind: api.Deed, N: 7, S: "App#0", F: l}
}

// of is a list of values, as norm.Kids takes them.
func of(l ...api.Value) []api.Value { return l }

// times is one value many times.
func times(n int, v api.Value) []api.Value {
	l := make([]api.Value, n)
	for i := range l {
		l[i] = v
	}
	return l
}

// nest lays v within n lists.
func nest(v api.Value, n int) api.Value {
	for range n {
		v = list(v)
	}
	return v
}

// shown is the child of a text.
func shown(key, s string) api.Child {
	return api.Child{Key: key, Kind: api.ElText, Value: text(s)}
}

// kid is the child of an element.
func kid(key string, v api.Value) api.Child {
	return api.Child{Key: key, Kind: v.Elem, Name: v.S, Value: v}
}

func sameKid(a, b api.Child) bool {
	return a.Key == b.Key && a.Kind == b.Kind && a.Name == b.Name && value.Same(a.Value, b.Value)
}

func sameKids(a, b []api.Child) bool {
	if len(a) != len(b) {
		return false
	}
	for i := range a {
		if !sameKid(a[i], b[i]) {
			return false
		}
	}
	return true
}

// tell is a short form of children: how many, and the first ones.
func tell(l []api.Child) string {
	s := fmt.Sprint(len(l), ":")
	for i := range min(len(l), 20) {
		s += fmt.Sprintf(" (%.40q kind %d %.40q %s)", l[i].Key, l[i].Kind, l[i].Name, short(l[i].Value))
	}
	return s
}

// short is the beginning of what fmt tells of it.
func short(v any) string { return fmt.Sprintf("%.300s", fmt.Sprint(v)) }

// comes: are just these the children? The second reading has to say so, too.
func comes(t *testing.T, l []api.Value, want ...api.Child) {
	t.Helper()
	if got := reading(l); !sameKids(got, want) {
		t.Errorf("%s: the test's own reading is %s, want %s", short(l), tell(got), tell(want))
	}
	held(t, l)
}

// held: are the children what the second reading says, with no two keys alike?
func held(t *testing.T, l []api.Value) []api.Child {
	t.Helper()
	got, want := norm.Kids(l), reading(l)
	if !sameKids(got, want) {
		t.Errorf("%s: %s, want %s", short(l), tell(got), tell(want))
	}
	if !unlike(got) {
		t.Errorf("%s: two keys are alike: %s", short(l), tell(got))
	}
	return got
}

// unlike: are no two keys the same?
func unlike(l []api.Child) bool {
	seen := map[string]bool{}
	for _, c := range l {
		if seen[c.Key] {
			return false
		}
		seen[c.Key] = true
	}
	return true
}
