package show_test

import (
	"fmt"
	"slices"
	"sync"
	"testing"

	"tapestry/api"
	"tapestry/show"
)

// rooms counts by how many lists each place of memory is reached, spare room too.
type rooms map[any]int

func (r rooms) nodes(l []api.Node) {
	count(r, l)
	for i := range l {
		r.nodes(l[i].Kids)
		r.fields(l[i].Attrs)
	}
}

func (r rooms) fields(l []api.Field) {
	count(r, l)
	for i := range l {
		r.fields(l[i].Value.F)
		r.values(l[i].Value.L)
	}
}

func (r rooms) values(l []api.Value) {
	count(r, l)
	for i := range l {
		r.fields(l[i].F)
		r.values(l[i].L)
	}
}

func count[T any](r rooms, l []T) {
	for i := range l[:cap(l)] {
		r[&l[:cap(l)][i]]++
	}
}

// roomy is the list with spare room that is filled.
func roomy[T any](l []T, spare T) []T {
	return append(slices.Clone(l), spare, spare)[:len(l)]
}

// given are nodes, all of whose lists have spare room that is filled, and share memory.
func given() []api.Node {
	values := roomy([]api.Value{number(1), deed(), words("x")}, words("spare"))
	inner := roomy(fields(field("a", list(values...)), field("b", api.Value{Kind: api.List, L: values})), field("spare", none()))
	attrs := roomy(fields(field("a", number(1)), field("b", api.Value{Kind: api.Record, F: inner}), field("c", deed(inner...)), field("d", element(inner...)), field("e", api.Value{Kind: api.Text, S: "x", L: values[:0], F: inner[:0]})), field("spare", none()))
	plain := roomy(fields(field("a", api.Value{Kind: api.Int, N: 1, L: values[:0], F: inner[:0]}), field("b", truth(1)), field("c", words("x"))), field("spare", none()))
	kids := roomy(nodes(api.Node{ID: 4, Text: "x", Attrs: attrs[:0], Kids: []api.Node{}}, api.Node{ID: 5, Tag: "q", Attrs: attrs}), host("spare"))
	more := roomy(nodes(api.Node{ID: 6, Tag: "r", Attrs: plain, Kids: kids}, api.Node{ID: 7, Tag: "r", Attrs: plain, Kids: kids}), host("spare"))
	return roomy(nodes(api.Node{ID: 1, Tag: "p", Attrs: attrs, Kids: more}, api.Node{ID: 2, Tag: "p", Attrs: plain, Kids: more[:1]}, leaf("end")), host("spare"))
}

// told are given, but for what may not be.
func told() []api.Node {
	l := given()
	l[0].Kids[0].Kids[1].Attrs = l[1].Attrs
	l[0].Attrs = l[1].Attrs
	return l
}

// whole is a copy of nodes, whose lists hold what stands in their spare room, too.
func whole(l []api.Node) []api.Node {
	all := slices.Clone(l[:cap(l)])
	for i := range all {
		all[i].Kids, all[i].Attrs = whole(all[i].Kids), wholeFields(all[i].Attrs)
	}
	return all
}

func wholeFields(l []api.Field) []api.Field {
	all := slices.Clone(l[:cap(l)])
	for i := range all {
		all[i].Value = wholeValues([]api.Value{all[i].Value})[0]
	}
	return all
}

func wholeValues(l []api.Value) []api.Value {
	all := slices.Clone(l[:cap(l)])
	for i := range all {
		all[i].L, all[i].F = wholeValues(all[i].L), wholeFields(all[i].F)
	}
	return all
}

// spoil overwrites all lists of nodes, from within, their spare room too.
func spoil(l []api.Node) {
	for i := range l {
		spoil(l[i].Kids)
		spoilFields(l[i].Attrs)
	}
	for i := range l[:cap(l)] {
		l[:cap(l)][i] = api.Node{ID: 77, Tag: "spoilt"}
	}
}

func spoilFields(l []api.Field) {
	for i := range l {
		spoilValues(l[i].Value.L)
		spoilFields(l[i].Value.F)
	}
	for i := range l[:cap(l)] {
		l[:cap(l)][i] = field("spoilt", none())
	}
}

func spoilValues(l []api.Value) {
	for i := range l {
		spoilValues(l[i].L)
		spoilFields(l[i].F)
	}
	for i := range l[:cap(l)] {
		l[:cap(l)][i] = words("spoilt")
	}
}

// R4: what is handed in is left as it was, its spare room too.
func TestHandedIn(t *testing.T) {
	for why, l := range map[string][]api.Node{"nodes with deeds": given(), "nodes that may be": told(), "none": given()[:0]} {
		before := whole(l)
		show.Text(l)
		show.Bare(l)
		spoil(show.Bare(l))
		if !sameNodes(whole(l), before) {
			t.Errorf("%s: what was handed in is another one", why)
		}
	}
	if show.Text(told()) == "" || show.Text(given()) != "" {
		t.Error("which of them may be")
	}
}

// R4: no two lists of what Bare answers share memory, nor do two answers, nor an answer and what was handed in.
func TestMemoryOfBare(t *testing.T) {
	for why, l := range map[string][]api.Node{"nodes with deeds": given(), "nodes that may be": told(), "none": given()[:0]} {
		a, b := show.Bare(l), show.Bare(l)
		if !sameNodes(a, b) {
			t.Errorf("%s: %s, then %s", why, short(a), short(b))
		}
		r, handed := rooms{}, rooms{}
		r.nodes(a)
		r.nodes(b)
		r.nodes(show.Bare(a))
		handed.nodes(l)
		for place, n := range r {
			if n > 1 || handed[place] > 0 {
				t.Errorf("%s: a %T is reached %d times, and %d times from what was handed in", why, place, n, handed[place])
			}
		}
		want := fmt.Sprint(a)
		spoil(l)
		spoil(b)
		if fmt.Sprint(a) != want {
			t.Errorf("%s: spoilt by what was handed in: %s", why, short(a))
		}
	}
}

// R4: no two lists of what Read answers share memory, nor do two answers.
func TestMemoryOfRead(t *testing.T) {
	for _, s := range append(someTexts(), show.Text(told())) {
		a, _ := show.Read(s)
		b, errno := show.Read(s)
		if errno != api.OK || !sameNodes(a, b) {
			t.Fatalf("%q: %s, then %s, error %d", s, short(a), short(b), errno)
		}
		r := rooms{}
		r.nodes(a)
		r.nodes(b)
		for place, n := range r {
			if n > 1 {
				t.Errorf("%q: a %T is reached %d times", s, place, n)
			}
		}
		spoil(a)
		c, _ := show.Read(s)
		if show.Text(b) != s || !sameNodes(b, c) {
			t.Errorf("%q: spoilt by another answer", s)
		}
	}
}

// R5: nothing is kept from one call to the next, nor shared by calls at once.
func TestCallsAtOnce(t *testing.T) {
	lists := someLists()
	var wait sync.WaitGroup
	for i := range 16 {
		wait.Add(1)
		go func() {
			defer wait.Done()
			for j := i; j < len(lists); j += 7 {
				l := lists[j]
				want, _ := readingOf(l)
				got, errno := show.Read(want)
				_, wrong := show.Read(want + " ")
				if show.Text(l) != want || errno != api.OK || wrong != api.ErrSyntax || !sameNodes(got, l) || !sameNodes(show.Bare(l), l) {
					t.Errorf("%.200q: another answer", want)
				}
			}
		}()
	}
	wait.Wait()
}

// R1: values that hold themselves may not be, and the call ends soon.
func TestValueThatHoldsItself(t *testing.T) {
	v := list(none(), none())
	v.L[0], v.L[1] = v, v
	f := record(field("a", none()))
	f.F[0].Value = f
	for _, v := range []api.Value{v, f} {
		for kind := range 256 {
			v.Kind = api.Kind(kind)
			for why, l := range ways(with(host("p"), field("a", v))) {
				tellsNone(t, why, l)
			}
		}
	}
}
