package norm_test

import (
	"sync"
	"testing"

	"tapestry/api"
	"tapestry/norm"
	"tapestry/value"
)

// rooms counts by how many lists each place of memory is reached, spare room too.
type rooms struct {
	kids   map[*api.Child]int
	values map[*api.Value]int
	fields map[*api.Field]int
}

func empty() rooms {
	return rooms{map[*api.Child]int{}, map[*api.Value]int{}, map[*api.Field]int{}}
}

func (r rooms) list(l []api.Value) {
	for i := range l[:cap(l)] {
		r.values[&l[:cap(l)][i]]++
	}
	for i := range l {
		r.value(l[i])
	}
}

func (r rooms) value(v api.Value) {
	r.list(v.L)
	for i := range v.F[:cap(v.F)] {
		r.fields[&v.F[:cap(v.F)][i]]++
	}
	for i := range v.F {
		r.value(v.F[i].Value)
	}
}

func (r rooms) children(l []api.Child) {
	for i := range l[:cap(l)] {
		r.kids[&l[:cap(l)][i]]++
	}
	for i := range l {
		r.value(l[i].Value)
	}
}

// twice: is a place reached twice?
func twice[P comparable](m map[P]int) bool {
	for _, n := range m {
		if n > 1 {
			return true
		}
	}
	return false
}

// both: is a place reached by both?
func both[P comparable](a, b map[P]int) bool {
	for p := range a {
		if b[p] > 0 {
			return true
		}
	}
	return false
}

// spare is a value whose lists have spare room that is filled.
func spare(v api.Value) api.Value {
	l := append(append([]api.Value{}, v.L...), text("spare"), host("spare"))
	f := append(append([]api.Field{}, v.F...), field("zz", text("spare")))
	v.L, v.F = l[:len(v.L)], f[:len(v.F)]
	return v
}

// given are lists whose parts share memory, with spare room.
func given() map[string][]api.Value {
	inner := spare(list(text("in"), number(2)))
	rec := spare(record(field("a", inner), field("b", inner)))
	el := host("p", inner, rec, spare(deed(field("x", rec))))
	el.F = rec.F
	el = spare(el)
	key := spare(keyed(el, "x"))
	return map[string][]api.Value{
		"nothing":        spare(list()).L,
		"one":            spare(list(el)).L,
		"the same twice": spare(list(el, el)).L,
		"within lists":   spare(list(list(el, key), list(inner, list(el)), inner)).L,
		"of each kind":   spare(list(none(), spare(number(5)), spare(text("a")), inner, rec, el, spare(deed(field("x", inner))), key, key)).L,
		"its own kid":    spare(list(host("q", el, key), el, key)).L,
		"too many":       append(times(api.MaxKids, spare(text("a"))), key, el),
	}
}

// whole is a copy of values, whose lists hold what stands in their spare room, too.
func whole(l []api.Value) []api.Value {
	all := append([]api.Value{}, l[:cap(l)]...)
	for i, v := range all {
		all[i].L = whole(v.L)
		all[i].F = append([]api.Field{}, v.F[:cap(v.F)]...)
		for j, f := range all[i].F {
			all[i].F[j].Value = whole(of(f.Value))[0]
		}
	}
	return all
}

// R4: what is handed in is left as it was, its spare room neither; what is answered shares memory with nothing, and no two lists of it share any.
func TestMemory(t *testing.T) {
	for why, l := range given() {
		before := whole(l)
		kids, again := norm.Kids(l), norm.Kids(l)
		if !value.Same(list(before...), list(whole(l)...)) {
			t.Errorf("%s: what was handed in is another one", why)
		}
		if !sameKids(kids, again) || !sameKids(kids, reading(l)) {
			t.Errorf("%s: %s, then %s", why, tell(kids), tell(again))
		}
		all, others, handed := empty(), empty(), empty()
		all.children(kids)
		others.children(again)
		handed.list(l)
		if twice(all.kids) || twice(all.values) || twice(all.fields) {
			t.Errorf("%s: two lists of the answer share memory", why)
		}
		if both(all.kids, others.kids) || both(all.values, others.values) || both(all.fields, others.fields) {
			t.Errorf("%s: two answers share memory", why)
		}
		if both(all.values, handed.values) || both(all.fields, handed.fields) {
			t.Errorf("%s: memory is shared with what was handed in", why)
		}
	}
}

// R4: what was handed in is kept by its content alone, and an answer that is written to changes neither another one nor what was handed in.
func TestKeptByContent(t *testing.T) {
	for why := range given() {
		l := given()[why]
		kids, want := norm.Kids(l), reading(given()[why])
		spoil(l)
		if !sameKids(kids, want) {
			t.Errorf("%s: spoilt by what was handed in", why)
		}
		l = given()[why]
		before := whole(l)
		kids, again := norm.Kids(l), norm.Kids(l)
		for i := range kids {
			spoil(of(kids[i].Value))
		}
		clear(kids[:cap(kids)])
		if !sameKids(again, want) || !sameKids(norm.Kids(l), want) || !value.Same(list(before...), list(whole(l)...)) {
			t.Errorf("%s: spoilt by another answer", why)
		}
	}
}

// spoil overwrites all lists of values, from within.
func spoil(l []api.Value) {
	for _, v := range l {
		spoil(v.L)
		for _, f := range v.F {
			spoil(of(f.Value))
		}
		clear(v.F[:cap(v.F)])
	}
	clear(l[:cap(l)])
}

// R4: lists that are nil are as empty ones.
func TestEmptyLists(t *testing.T) {
	bare, full := host("p"), host("p")
	full.L, full.F = []api.Value{}, make([]api.Field, 0, 3)
	var no []api.Value
	a := norm.Kids(of(bare, api.Value{Kind: api.List}, list(no...), host("q")))
	b := norm.Kids(of(full, api.Value{Kind: api.List, L: []api.Value{}}, list(make([]api.Value, 0, 3)...), host("q")))
	want := []api.Child{kid("i:0", bare), kid("i:1", host("q"))}
	if !sameKids(a, want) || !sameKids(b, want) {
		t.Errorf("%s; %s", tell(a), tell(b))
	}
}

// R5: nothing is kept from one call to the next, nor shared by calls at once.
func TestCallsApart(t *testing.T) {
	all, want := [][]api.Value{}, [][]api.Child{}
	each(2, func(l []api.Value) {
		all, want = append(all, l), append(want, reading(l))
	})
	for i := range all {
		for j := range all {
			if !sameKids(norm.Kids(all[i]), want[i]) || !sameKids(norm.Kids(all[j]), want[j]) {
				t.Errorf("%v and %v: other children", all[i], all[j])
			}
		}
	}
	var wait sync.WaitGroup
	for i := range all {
		for range 4 {
			wait.Add(1)
			go func() {
				defer wait.Done()
				if kids := norm.Kids(all[i]); !sameKids(kids, want[i]) {
					t.Errorf("%v beside others: %s", all[i], tell(kids))
				}
			}()
		}
	}
	wait.Wait()
}

// R4: Alike leaves what it is handed as it was.
func TestAlikeLeavesItsChildren(t *testing.T) {
	l := given()["of each kind"]
	before := whole(l)
	for _, v := range l {
		for _, w := range l {
			norm.Alike(api.Child{Kind: api.ElHost, Value: v}, api.Child{Kind: api.ElHost, Value: w})
		}
	}
	if !value.Same(list(before...), list(whole(l)...)) {
		t.Error("what was handed in is another one")
	}
}
