package match_test

import (
	"testing"

	"tapestry/api"
)

// kinds are those of children, and some that are none's.
func kinds() []api.ElemKind {
	return []api.ElemKind{api.ElNone, api.ElHost, api.ElComp, api.ElMemo, api.ElFrag, api.ElPortal, api.ElGive, api.ElGuard, api.ElWait, api.ElText, 10, 128, 255}
}

// P8.1: of one key those go on that are of the same kind and the same name, and no others.
func TestKindsAndNames(t *testing.T) {
	var all []api.Child
	for _, k := range kinds() {
		for _, name := range []string{"", "a", "b", "A", "ab", "a\x00", "\xff"} {
			all = append(all, api.Child{Key: "k:x", Kind: k, Name: name})
		}
	}
	for i, a := range all {
		for j, b := range all {
			want := -1
			if i == j {
				want = 0
			}
			comes(t, of(a), of(b), want)
			// The first one holds the key, whether it is alike or not.
			comes(t, of(a, b), of(b), want)
			if i != j {
				comes(t, of(a, b), of(b, a), -1, 0)
			}
		}
	}
}

// P8.1: unlike kinds with one name, unlike names with one kind, each with a key of its own beside them.
func TestUnlike(t *testing.T) {
	p := host("k:x", "a")
	for _, c := range []struct {
		why  string
		set  func(c *api.Child)
		want int
	}{
		{"itself", func(c *api.Child) {}, 0},
		{"a component of that name", func(c *api.Child) { c.Kind = api.ElComp }, -1},
		{"a memoised one of that name", func(c *api.Child) { c.Kind = api.ElMemo }, -1},
		{"a portal of that name", func(c *api.Child) { c.Kind = api.ElPortal }, -1},
		{"a text of that name", func(c *api.Child) { c.Kind = api.ElText }, -1},
		{"no kind", func(c *api.Child) { c.Kind = api.ElNone }, -1},
		{"another tag", func(c *api.Child) { c.Name = "b" }, -1},
		{"no tag", func(c *api.Child) { c.Name = "" }, -1},
		{"a longer tag", func(c *api.Child) { c.Name = "aa" }, -1},
		{"another kind and tag", func(c *api.Child) { c.Kind, c.Name = api.ElComp, "b" }, -1},
		{"another key", func(c *api.Child) { c.Key = "k:z" }, -1},
		{"a place as a key", func(c *api.Child) { c.Key = "i:0" }, -1},
	} {
		b := p
		c.set(&b)
		y := host("k:y", "a")
		comes(t, of(p), of(b), c.want)
		comes(t, of(b), of(p), c.want)
		behind := -1
		if c.want == 0 {
			behind = 1
		}
		comes(t, of(y, p), of(b, y), behind, 0)
		comes(t, of(y, b), of(y, p), 0, behind)
		if t.Failed() {
			t.Fatal(c.why)
		}
	}
}

// P8.1: what the value is makes no difference, alike or not alike.
func TestValues(t *testing.T) {
	field := []api.Field{{Name: "a", Value: api.Value{Kind: api.Int, N: 1}}}
	values := []api.Value{
		{}, {Kind: api.Int, N: 5}, {Kind: api.Bool, N: 1}, {Kind: api.Text, S: "s"}, {Kind: api.Text, S: "other"},
		{Kind: api.List, L: []api.Value{{}}}, {Kind: api.Record, F: field}, {Kind: api.Deed, N: 3, S: "App#0", F: field},
		{Kind: api.Elem, Elem: api.ElHost, S: "p"}, {Kind: api.Elem, Elem: api.ElHost, S: "p", F: field, L: []api.Value{{Kind: api.Int}}},
		{Kind: api.Elem, Elem: api.ElComp, S: "q", HasKey: true, Key: "z"}, {Kind: 200, Elem: 200, N: -1},
	}
	for _, v := range values {
		for _, w := range values {
			a := api.Child{Key: "k:x", Kind: api.ElHost, Name: "p", Value: v}
			b := api.Child{Key: "k:x", Kind: api.ElHost, Name: "p", Value: w}
			q := api.Child{Key: "k:x", Kind: api.ElHost, Name: "q", Value: w}
			y := api.Child{Key: "k:y", Kind: api.ElHost, Name: "p", Value: v}
			comes(t, of(a), of(b), 0)
			comes(t, of(a), of(q), -1)
			comes(t, of(y), of(b), -1)
			comes(t, of(a, b), of(b, a), 0, -1)
			comes(t, of(q, b, a), of(b, a), -1, -1)
		}
	}
}
