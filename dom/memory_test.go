package dom_test

import (
	"sync"
	"testing"

	"tapestry/api"
	"tapestry/dom"
)

// rooms counts by how many lists each place of memory is reached, spare room too.
type rooms map[any]int

func (r rooms) nodes(l []api.Node) {
	for i := range l[:cap(l)] {
		r[&l[:cap(l)][i]]++
	}
	for i := range l {
		r.nodes(l[i].Kids)
		f := l[i].Attrs
		for j := range f[:cap(f)] {
			r[&f[:cap(f)][j]]++
		}
		for j := range f {
			r.value(f[j].Value)
		}
	}
}

func (r rooms) ops(l []api.Op) {
	for i := range l[:cap(l)] {
		r[&l[:cap(l)][i]]++
	}
	for i := range l {
		r.value(l[i].Value)
	}
}

func (r rooms) texts(l []string) {
	for i := range l[:cap(l)] {
		r[&l[:cap(l)][i]]++
	}
}

func (r rooms) value(v api.Value) {
	for i := range v.L[:cap(v.L)] {
		r[&v.L[:cap(v.L)][i]]++
	}
	for i := range v.F[:cap(v.F)] {
		r[&v.F[:cap(v.F)][i]]++
	}
}

// roomy is the value with empty lists whose spare room is filled.
func roomy(v api.Value) api.Value {
	v.L = []api.Value{words("spare"), number(7)}[:0]
	v.F = []api.Field{field("spare", none())}[:0]
	return v
}

// roomyOps are ops, all of whose values have such lists.
func roomyOps() []api.Op {
	l := []api.Op{create(1, "p"), create(2, "q"), text(3, "x"), text(4, "y"), attr(1, "b", number(1)), attr(1, "a", words("v")), attr(1, "c", truth(1)),
		attr(2, "a", number(2)), write(3, "X"), at(1, "", 0), into(2, 1, 0), into(3, 2, 0), into(4, 1, 2), drop(1, "c"), create(5, "r"), at(5, "x", 0),
		attr(5, "b", number(3)), text(6, "z"), at(6, "x", 5), text(7, ""), at(7, "y", 0), remove(7)}
	for i := range l {
		l[i].Value = roomy(l[i].Value)
	}
	return l
}

// wanted is what the document of these ops tells.
func wanted(t *testing.T, d *dom.Doc) {
	t.Helper()
	are(t, d, "", "x")
	stand(t, d, "", with(host(1, "p", leaf(4, "y"), with(host(2, "q", leaf(3, "X")), field("a", number(2)))), field("a", words("v")), field("b", number(1))))
	stand(t, d, "x", leaf(6, "z"), with(host(5, "r"), field("b", number(3))))
	if got := d.Log(); !sameOps(got, roomyOps()) {
		t.Errorf("log %v", got)
	}
}

// R4: no two lists of what is answered share memory, nor do two answers, nor answers and what was handed in.
func TestMemory(t *testing.T) {
	handed := roomyOps()
	d := made(t, handed...)
	wanted(t, d)
	r := rooms{}
	for range 2 {
		r.nodes(d.Nodes(""))
		r.nodes(d.Nodes("x"))
		r.nodes(d.Nodes("y"))
		r.texts(d.Places())
		r.ops(d.Log())
	}
	other := made(t, handed...)
	r.nodes(other.Nodes(""))
	r.nodes(other.Nodes("x"))
	r.texts(other.Places())
	r.ops(other.Log())
	r.ops(handed)
	for place, n := range r {
		if n > 1 {
			t.Errorf("a %T is reached %d times", place, n)
		}
	}
}

// spoil overwrites nodes from within, spare room too.
func spoil(l []api.Node) {
	for i := range l {
		spoil(l[i].Kids)
		f := l[i].Attrs
		for j := range f[:cap(f)] {
			f[:cap(f)][j] = field("spoilt", none())
		}
	}
	for i := range l[:cap(l)] {
		l[:cap(l)][i] = api.Node{ID: 77, Tag: "spoilt"}
	}
}

// R4: what a caller writes into Nodes, Places or Log changes no document.
func TestSpoiltAnswers(t *testing.T) {
	d := made(t, roomyOps()...)
	other := made(t, d.Log()...)
	for range 3 {
		spoil(d.Nodes(""))
		spoil(d.Nodes("x"))
		places, log := d.Places(), d.Log()
		for i := range places[:cap(places)] {
			places[:cap(places)][i] = "spoilt"
		}
		for i := range log[:cap(log)] {
			log[:cap(log)][i] = remove(1)
		}
		wanted(t, d)
		wanted(t, other)
	}
	// Answers ahead of what is done are left as they were, too.
	nodes, places, log := d.Nodes(""), d.Places(), d.Log()
	does(t, d, attr(1, "a", number(9)), drop(1, "b"), write(3, "no"), at(2, "z", 0), remove(4), attr(1, "aa", number(8)), remove(5), remove(6))
	if !sameNodes(nodes, other.Nodes("")) || len(places) != 2 || places[1] != "x" || !sameOps(log, other.Log()) {
		t.Errorf("%v, %q, %v", nodes, places, log)
	}
	wanted(t, other)
	again(t, d)
}

// R4: what is handed in is left as it was, its spare room too, and is not kept but by its content.
func TestHandedIn(t *testing.T) {
	handed := roomyOps()
	d := made(t, handed...)
	for _, o := range handed {
		l, f := o.Value.L[:2], o.Value.F[:1]
		if l[0].S != "spare" || l[1].N != 7 || f[0].Name != "spare" {
			t.Errorf("%s: its spare room is another one", tellOp(o))
		}
		l[0], f[0] = none(), field("spoilt", none())
	}
	clear(handed)
	wanted(t, d)
}

// R1, R2: a value that holds itself may not be, and is refused soon.
func TestValueThatHoldsItself(t *testing.T) {
	v := listOf(2)
	v.L[0], v.L[1] = v, v
	f := api.Value{Kind: api.Record, F: make([]api.Field, 1)}
	f.F[0] = field("a", f)
	d := made(t, create(1, "p"), text(2, "x"))
	for _, v := range []api.Value{v, f} {
		for kind := range 9 {
			for _, node := range []int{1, 2, 3} {
				o := api.Op{Kind: api.OpKind(kind), Node: node, Name: "a", Value: v}
				if got := d.Do(o); got != api.ErrArg && got != api.ErrGone {
					t.Errorf("kind %d of %d: %d", kind, node, got)
				}
				o.Name = ""
				if got := d.Do(o); got != api.ErrArg && got != api.ErrGone {
					t.Errorf("kind %d of %d: %d", kind, node, got)
				}
			}
		}
	}
	if len(d.Log()) != 2 {
		t.Errorf("log %v", d.Log())
	}
}

// R5: documents at once, each by itself, share nothing.
func TestDocumentsAtOnce(t *testing.T) {
	handed := roomyOps()
	var wait sync.WaitGroup
	for range 16 {
		wait.Add(1)
		go func() {
			defer wait.Done()
			for range 20 {
				d := made(t, handed...)
				wanted(t, d)
				again(t, d)
			}
		}()
	}
	wait.Wait()
}
