package norm_test

import (
	"testing"

	"tapestry/api"
	"tapestry/norm"
)

// noChildren are some values that are none, each with one place.
func noChildren() []api.Value {
	return of(none(), truth(0), record(field("a", host("p"))), deed(), keyed(elem(api.ElNone, "p"), "x"), keyed(elem(api.ElText, "p"), "x"), api.Value{Kind: 9, L: of(text("a"))})
}

// instead is l with v at the place i.
func instead(l []api.Value, i int, v api.Value) []api.Value {
	l = append([]api.Value{}, l...)
	l[i] = v
	return l
}

// P7.3: no two children have one key, and each key is its value's own or its place.
func TestNoTwoKeysAlike(t *testing.T) {
	t.Parallel()
	each(5, func(l []api.Value) {
		if kids := norm.Kids(l); !unlike(kids) {
			t.Errorf("%v: %s", l, tell(kids))
		}
	})
}

// P7.3: what is no child is as any other that is none.
func TestWhatIsNoChild(t *testing.T) {
	t.Parallel()
	each(4, func(l []api.Value) {
		want := norm.Kids(l)
		for i := range l {
			if isChild(l[i]) || l[i].Kind == api.List {
				continue
			}
			for _, v := range noChildren() {
				if got := norm.Kids(instead(l, i, v)); !sameKids(got, want) {
					t.Errorf("%v with %v at %d: %s, want %s", l, v, i, tell(got), tell(want))
				}
			}
		}
	})
}

// P7.3: where a child without a key of its own is none instead, the others stay as they are.
func TestPlaceStaysFree(t *testing.T) {
	t.Parallel()
	each(4, func(l []api.Value) {
		for i := range l {
			if !isChild(l[i]) || l[i].HasKey {
				continue
			}
			want := norm.Kids(l)
			ahead := len(norm.Kids(l[:i]))
			want = append(want[:ahead:ahead], want[ahead+1:]...)
			for _, v := range noChildren() {
				if got := norm.Kids(instead(l, i, v)); !sameKids(got, want) {
					t.Errorf("%v with %v at %d: %s, want %s", l, v, i, tell(got), tell(want))
				}
			}
		}
	})
}

// P7.3: what comes behind makes no difference to what stands ahead of it.
func TestBehind(t *testing.T) {
	t.Parallel()
	each(4, func(l []api.Value) {
		all := norm.Kids(l)
		for i := range l {
			ahead := norm.Kids(l[:i])
			if !sameKids(ahead, all[:len(ahead)]) {
				t.Errorf("%v: %s, but of the first %d: %s", l, tell(all), i, tell(ahead))
			}
		}
	})
}

// children are of each kind of child, some alike, with other keys and values.
func children() []api.Child {
	var l []api.Child
	for _, k := range append(elements(), api.ElNone, api.ElText, 10, 255) {
		for _, name := range []string{"", "a", "b", "A", "ab", "a\x00"} {
			l = append(l, api.Child{Kind: k, Name: name},
				api.Child{Key: "k:x", Kind: k, Name: name, Value: keyed(elem(k, name, text("a")), "x")},
				api.Child{Key: "i:7", Kind: k, Name: name, Value: text("b")})
		}
	}
	return l
}

// P7.2: alike are those of the same kind and the same name, whatever else they have.
func TestAlike(t *testing.T) {
	all := children()
	for i, a := range all {
		for j, b := range all {
			// Three of each kind and name stand behind one another.
			if norm.Alike(a, b) != (i/3 == j/3) {
				t.Errorf("%v and %v: %v", a, b, i/3 != j/3)
			}
		}
	}
}

// P7.2: one of the two being unlike is enough; keys and values are no matter.
func TestAlikeByHand(t *testing.T) {
	a := api.Child{Key: "k:x", Kind: api.ElHost, Name: "p", Value: host("p")}
	for _, c := range []struct {
		why  string
		set  func(c *api.Child)
		want bool
	}{
		{"itself", func(c *api.Child) {}, true},
		{"another key", func(c *api.Child) { c.Key = "i:0" }, true},
		{"no key", func(c *api.Child) { c.Key = "" }, true},
		{"another value", func(c *api.Child) { c.Value = keyed(elem(api.ElComp, "q", text("a")), "y") }, true},
		{"no value", func(c *api.Child) { c.Value = none() }, true},
		{"another key and value", func(c *api.Child) { c.Key, c.Value = "", text("a") }, true},
		{"another kind", func(c *api.Child) { c.Kind = api.ElComp }, false},
		{"a text", func(c *api.Child) { c.Kind = api.ElText }, false},
		{"another name", func(c *api.Child) { c.Name = "q" }, false},
		{"no name", func(c *api.Child) { c.Name = "" }, false},
		{"another kind and name", func(c *api.Child) { c.Kind, c.Name = api.ElComp, "q" }, false},
	} {
		b := a
		c.set(&b)
		if norm.Alike(a, b) != c.want || norm.Alike(b, a) != c.want {
			t.Errorf("%s: not %v", c.why, c.want)
		}
	}
}

// P7.3: Alike is so of a child and itself, goes both ways, and on.
func TestAlikeFollows(t *testing.T) {
	all := append(children(), norm.Kids(some())...)
	for _, a := range all {
		if !norm.Alike(a, a) {
			t.Errorf("%v is not alike itself", a)
		}
		for _, b := range all {
			if norm.Alike(a, b) != norm.Alike(b, a) {
				t.Errorf("%v and %v: not both ways", a, b)
			}
			if !norm.Alike(a, b) {
				continue
			}
			for _, c := range all {
				if norm.Alike(b, c) != norm.Alike(a, c) {
					t.Errorf("%v, %v and %v: it does not go on", a, b, c)
				}
			}
		}
	}
}
