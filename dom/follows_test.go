package dom_test

import (
	"fmt"
	"testing"

	"tapestry/api"
	"tapestry/dom"
)

// docs are short ways to documents of all that an op can meet.
func docs() map[string][]api.Op {
	return map[string][]api.Op{
		"new":     nil,
		"nowhere": {create(1, "p"), text(2, "x")},
		"gone":    {create(1, "p"), text(2, "x"), into(2, 1, 0), at(1, "", 0), remove(1), create(3, "p"), at(3, "x", 0)},
		"within":  {create(1, "p"), text(2, "x"), create(3, "q"), at(1, "", 0), into(3, 1, 0), into(2, 3, 0), attr(1, "a", number(1)), attr(3, "b", truth(1))},
		"beside":  {create(1, "p"), text(2, "x"), create(3, "q"), at(1, "x", 0), at(2, "x", 0), at(3, "", 0), attr(3, "a", words("x"))},
		"around":  {create(3, "p"), text(2, "x"), create(1, "q"), into(1, 3, 0), into(2, 3, 1), attr(1, "b", number(1))},
	}
}

// eachOp goes through ops of each kind with each field as each of some, those that may not be, too.
func eachOp(do func(o api.Op)) {
	tooLong := long(api.MaxText + 1)
	kinds := []api.OpKind{api.OpNone, api.OpCreate, api.OpText, api.OpAttr, api.OpDrop, api.OpInsert, api.OpRemove, api.OpWrite, 8, 255}
	for _, kind := range kinds {
		for _, node := range []int{0, -1, 1, 2, 3, 4} {
			for _, parent := range []int{0, -1, 1, 2, 3, 4} {
				for _, place := range []string{"", "x", tooLong} {
					for _, before := range []int{0, -1, 1, 2, 3, 4} {
						for _, name := range []string{"", "a", "b", tooLong} {
							for _, v := range []api.Value{none(), number(2), truth(2), words("y"), words(tooLong), listOf(1)} {
								do(api.Op{Kind: kind, Node: node, Parent: parent, Place: place, Before: before, Name: name, Value: v})
							}
						}
					}
				}
			}
		}
	}
}

// P10.2, P10.5: each op, to each of the documents, does and answers what the second reading does.
func TestEachOp(t *testing.T) {
	for why, way := range docs() {
		t.Run(why, func(t *testing.T) {
			t.Parallel()
			was, d := newReading(), made(t, way...)
			for _, o := range way {
				was.do(o)
			}
			was.held(t, d)
			eachOp(func(o api.Op) {
				want, got := was.answer(o), d.Do(o)
				if got != want {
					t.Fatalf("%s: %d, want %d", tellOp(o), got, want)
				}
				if want != api.OK {
					return
				}
				was.log = append(was.log, o)
				was.held(t, d)
				was, d = newReading(), made(t, way...)
				for _, o := range way {
					was.do(o)
				}
				if t.Failed() {
					t.Fatal(tellOp(o))
				}
			})
			was.held(t, d) // behind all that was refused
		})
	}
}

// arrangement is a way that nodes can stand, and how to come to it.
type arrangement struct {
	r   *reading
	way []api.Op
}

// P10.2, P10.5: from each way in which three hosts and a text can stand, at two places and nowhere, each insertion and each removal.
func TestEachArrangement(t *testing.T) {
	t.Parallel()
	first := arrangement{newReading(), []api.Op{create(1, "p"), create(2, "p"), create(3, "p"), text(4, "x")}}
	var ops []api.Op
	for node := 1; node <= 4; node++ {
		ops = append(ops, remove(node))
		for before := 0; before <= 4; before++ {
			ops = append(ops, at(node, "", before), at(node, "x", before))
			for parent := 1; parent <= 4; parent++ {
				ops = append(ops, into(node, parent, before))
			}
		}
	}
	for _, o := range first.way {
		first.r.do(o)
	}
	seen, left := map[string]bool{first.r.key(): true}, []arrangement{first}
	for len(left) > 0 {
		a := left[0]
		left = left[1:]
		d := made(t, a.way...)
		for _, o := range ops {
			r := a.r.copy()
			want, got := r.do(o), d.Do(o)
			if got != want {
				t.Fatalf("%v, %s: %d, want %d", a.way, tellOp(o), got, want)
			}
			if want != api.OK {
				continue
			}
			r.held(t, d)
			if t.Failed() {
				t.Fatalf("%v, %s", a.way, tellOp(o))
			}
			d = made(t, a.way...)
			if key := r.key(); !seen[key] {
				seen[key] = true
				left = append(left, arrangement{r, r.log})
			}
		}
		a.r.held(t, d)
	}
	if len(seen) < 1000 {
		t.Errorf("%d ways to stand alone", len(seen))
	}
}

// key is unlike for all ways in which up to four nodes stand, or are gone.
func (r *reading) key() string {
	s := fmt.Sprint(r.nodes(spot{}), r.nodes(spot{place: "x"}))
	for id := range 5 {
		if _, there := r.things[id]; there {
			if _, stands := r.where(id); !stands {
				s += fmt.Sprint(" ", id, r.nodes(spot{parent: id}))
			}
		}
	}
	return s
}

// row is a row of numbers, the same one each time.
type row uint32

// next number of the row, below n.
func (r *row) next(n int) int {
	*r = *r*1664525 + 1013904223
	return int(*r>>8) % n
}

// op of whatever kind, most of them such as can be done.
func (r *row) op() api.Op {
	const nodes = 24
	names := []string{"a", "b", "c", "d", "ab"}
	spots := []string{"", "x", "y", "z"}
	node, other := 1+r.next(nodes), r.next(nodes+1)
	if r.next(2) == 0 {
		other = 0
	}
	switch r.next(12) {
	case 0, 1:
		return create(node, names[r.next(5)])
	case 2:
		return text(node, names[r.next(5)])
	case 3:
		return write(node, names[r.next(5)])
	case 4:
		return attr(node, names[r.next(5)], []api.Value{number(int64(other)), truth(int64(r.next(2))), words(names[r.next(5)])}[r.next(3)])
	case 5:
		return drop(node, names[r.next(5)])
	case 6:
		if r.next(4) == 0 {
			return remove(node)
		}
		return into(node, 1+r.next(nodes), other)
	case 7, 8:
		return at(node, spots[r.next(4)], other)
	default:
		return into(node, 1+r.next(nodes), other)
	}
}

// P10.2 to P10.5: long rows of ops, held against the second reading at each step.
func TestLongRows(t *testing.T) {
	for seed := range 12 {
		t.Run(fmt.Sprint(seed), func(t *testing.T) {
			t.Parallel()
			ops, d, r := row(seed*7919+1), dom.New(), newReading()
			for range 4000 {
				o := ops.op()
				if got, want := d.Do(o), r.do(o); got != want {
					t.Fatalf("%s: %d, want %d", tellOp(o), got, want)
				}
				if ops.next(40) == 0 {
					r.held(t, d)
				}
				if t.Failed() {
					t.FailNow()
				}
			}
			r.held(t, d)
			again(t, d)
			if len(d.Log()) < 1000 {
				t.Errorf("%d were done alone", len(d.Log()))
			}
		})
	}
}

// again: does the log, done to a new document, make the same one, with the same log?
func again(t *testing.T, d *dom.Doc) {
	t.Helper()
	other := made(t, d.Log()...)
	if got, want := all(other), all(d); !got.same(want) {
		t.Errorf("%v, want %v", got, want)
	}
	for id := -2; id <= 40; id++ {
		if d.Has(id) != other.Has(id) {
			t.Errorf("Has(%d) is %v, want %v", id, other.Has(id), d.Has(id))
		}
	}
}

// P10.5: of each of the documents the log makes the same one, and what is done to one of them is not done to the other.
func TestLogMakesTheSame(t *testing.T) {
	for _, way := range docs() {
		d := made(t, way...)
		again(t, d)
		other := made(t, d.Log()...)
		before := all(d)
		does(t, other, create(9, "new"), at(9, "", 0))
		if !all(d).same(before) || d.Has(9) {
			t.Errorf("%v, want %v", all(d), before)
		}
		again(t, other)
	}
}
