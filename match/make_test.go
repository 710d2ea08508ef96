package match_test

import (
	"fmt"
	"slices"
	"testing"

	"tapestry/api"
	"tapestry/match"
)

// What the tests make children by.

// host is a child of the kind ElHost, as most of these tests want one.
func host(key, tag string) api.Child {
	return api.Child{Key: key, Kind: api.ElHost, Name: tag, Value: api.Value{Kind: api.Elem, Elem: api.ElHost, S: tag}}
}

func text(key, s string) api.Child {
	return api.Child{Key: key, Kind: api.ElText, Value: api.Value{Kind: api.Text, S: s}}
}

// of is a list of children, as match.Match takes them.
func of(l ...api.Child) []api.Child { return l }

// sorts are hosts of each key with each tag.
func sorts(keys, tags []string) []api.Child {
	var l []api.Child
	for _, key := range keys {
		for _, tag := range tags {
			l = append(l, host(key, tag))
		}
	}
	return l
}

// each goes through all lists of up to n of these.
func each(n int, some []api.Child, do func(l []api.Child)) {
	var with func(l []api.Child)
	with = func(l []api.Child) {
		do(l)
		if len(l) == n {
			return
		}
		for _, c := range some {
			with(append(l[:len(l):len(l)], c))
		}
	}
	with(nil)
}

// lists are all lists of up to n of these.
func lists(n int, some []api.Child) [][]api.Child {
	var all [][]api.Child
	each(n, some, func(l []api.Child) { all = append(all, l) })
	return all
}

// orders are the list in each order that it can have.
func orders(l []api.Child) [][]api.Child {
	if len(l) == 0 {
		return [][]api.Child{nil}
	}
	var all [][]api.Child
	for i := range l {
		rest := append(l[:i:i], l[i+1:]...)
		for _, order := range orders(rest) {
			all = append(all, append([]api.Child{l[i]}, order...))
		}
	}
	return all
}

// turned is the list from its end on.
func turned(l []api.Child) []api.Child {
	l = slices.Clone(l)
	slices.Reverse(l)
	return l
}

// A second reading of the chapter, without a map: the holder is looked for among all old ones, and whether it went on among all answers ahead.

func alike(a, b api.Child) bool { return a.Kind == b.Kind && a.Name == b.Name }

func reading(old, next []api.Child) []int {
	var all []int
	for _, c := range next {
		place := slices.IndexFunc(old, func(o api.Child) bool { return o.Key == c.Key })
		if place >= 0 && (!alike(old[place], c) || slices.Contains(all, place)) {
			place = -1
		}
		all = append(all, place)
	}
	return all
}

// held: is the answer what the second reading says, and does P8.2 hold of it?
func held(t *testing.T, old, next []api.Child) []int {
	t.Helper()
	got := match.Match(old, next)
	if want := reading(old, next); !slices.Equal(got, want) {
		t.Errorf("%s to %s: %s, want %s", tell(old), tell(next), short(got), short(want))
	}
	follows(t, old, next, got)
	return got
}

// follows: one number for each new child; no place twice, none outside of the old list, each with the new one's key, and alike.
func follows(t *testing.T, old, next []api.Child, got []int) {
	t.Helper()
	if len(got) != len(next) {
		t.Errorf("%s to %s: %d numbers", tell(old), tell(next), len(got))
		return
	}
	went := map[int]bool{}
	for i, place := range got {
		switch {
		case place == -1:
		case place < 0 || place >= len(old):
			t.Errorf("%s to %s: no place is %d", tell(old), tell(next), place)
		case went[place]:
			t.Errorf("%s to %s: %d goes on twice", tell(old), tell(next), place)
		case old[place].Key != next[i].Key || !alike(old[place], next[i]):
			t.Errorf("%s to %s: %d goes on as %d", tell(old), tell(next), place, i)
		}
		went[place] = true
	}
}

// comes: is just this the answer? The second reading has to say so, too.
func comes(t *testing.T, old, next []api.Child, want ...int) {
	t.Helper()
	if got := reading(old, next); !slices.Equal(got, want) {
		t.Errorf("%s to %s: the test's own reading is %s, want %s", tell(old), tell(next), short(got), short(want))
	}
	if got := held(t, old, next); !slices.Equal(got, want) {
		t.Errorf("%s to %s: %s, want %s", tell(old), tell(next), short(got), short(want))
	}
}

// tell is a short form of children: how many, and the first ones.
func tell(l []api.Child) string {
	s := fmt.Sprint(len(l), ":")
	for i := range min(len(l), 12) {
		s += fmt.Sprintf(" (%.30q kind %d %.30q)", l[i].Key, l[i].Kind, l[i].Name)
	}
	return s
}

// short is the beginning of an answer.
func short(l []int) string {
	return fmt.Sprint(len(l), ": ", l[:min(len(l), 20)])
}
