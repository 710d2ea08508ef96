package value_test

import (
	"strings"
	"testing"

	"tapestry/api"
	"tapestry/value"
)

// some are values that are like one another, those that may be and others.
func some() []api.Value {
	plain := []api.Value{none(), number(0), number(1), number(12), number(-1), number(-12), truth(0), truth(1), text(""), text("1"), text("12"), text(`"`), text(`\`),
		text("\n"), text(`\n`), text("n"), text("none"), text(`" "`), text("\xff"), text("\ufffd"), list(), record(), {N: 1}, truth(2), {Kind: 9}, {Kind: api.Text, N: 1}}
	all := append([]api.Value{}, plain...)
	for i, a := range plain {
		b := plain[(i+1)%len(plain)]
		all = append(all, list(a), list(a, b), list(list(a), b), list(list(a, b)), record(field("a", a)), record(field("a", a), field("b", b)),
			record(field("a", record(field("b", a)))), record(field("b", a), field("a", b)), record(field(`a" 1`, a)))
		for k := api.ElNone; k <= api.ElText; k++ {
			e := anElem(k)
			all = append(all, e, keyed(e, ""), keyed(e, "key"))
			e.L = []api.Value{a}
			all = append(all, e)
			if len(e.F) > 0 {
				e = deepCopy(e)
				e.F[0].Value = a
				all = append(all, e)
			}
		}
		all = append(all, elem(api.ElHost, "a", []api.Field{field("a", a)}, b), elem(api.ElHost, "a", nil, a, b), elem(api.ElHost, "a", nil, list(a, b)),
			deed(1, "A#0", field("a", a)), deed(1, "A#1", field("a", a)), deed(12, "A#0"))
	}
	return all
}

func small(v api.Value) bool { return v.Kind == api.None || v.Kind == api.Int || v.Kind == api.Bool }

// P1.5: Same holds of a value and itself, and both ways; texts are the same just if values are; none begins another one.
func TestTextsTellValues(t *testing.T) {
	all := some()
	texts := make([]string, len(all))
	for i, v := range all {
		texts[i] = value.Text(v)
		if (texts[i] != "") != value.Check(v) {
			t.Fatalf("%d: %q, but Check is %v", i, texts[i], value.Check(v))
		}
	}
	for i, a := range all {
		if !value.Same(a, a) || !value.Same(a, deepCopy(a)) {
			t.Fatalf("%q is not itself", texts[i])
		}
		for j, b := range all {
			same := value.Same(a, b)
			if same != value.Same(b, a) {
				t.Fatalf("%d, %d: Same does not go both ways", i, j)
			}
			if texts[i] == "" || texts[j] == "" {
				continue
			}
			if same != (texts[i] == texts[j]) {
				t.Fatalf("%q and %q: Same is %v", texts[i], texts[j], same)
			}
			if !same && strings.HasPrefix(texts[i], texts[j]) && !(small(a) && small(b)) {
				t.Fatalf("%q begins %q", texts[j], texts[i])
			}
			if a.Kind == api.Record && b.Kind == api.Record && value.Shallow(a, b) != same {
				t.Fatalf("%q and %q: Shallow is not Same", texts[i], texts[j])
			}
		}
	}
}

// P1.5: Same goes on from one to the next.
func TestSameGoesOn(t *testing.T) {
	var all []api.Value
	for i, v := range some() {
		if i%7 == 0 {
			all = append(all, v, deepCopy(v))
		}
	}
	for _, a := range all {
		for _, b := range all {
			if !value.Same(a, b) {
				continue
			}
			for _, c := range all {
				if value.Same(b, c) != value.Same(a, c) {
					t.Fatal("Same does not go on")
				}
			}
		}
	}
}

// P1.5: each part of a value that may be may be.
func TestPartsMayBe(t *testing.T) {
	var look func(v api.Value)
	look = func(v api.Value) {
		if !value.Check(v) || value.Text(v) == "" {
			t.Errorf("a part of the kind %d may not be", v.Kind)
		}
		for _, x := range v.L {
			look(x)
		}
		for _, f := range v.F {
			look(f.Value)
		}
	}
	n := 0
	for _, v := range some() {
		if value.Check(v) {
			n++
			look(v)
		}
	}
	if n < 500 {
		t.Errorf("just %d values that may be", n)
	}
}

// R4: what is handed in is not changed, its spare room neither. R5: the same again.
func TestHandedIn(t *testing.T) {
	l := []api.Value{number(1), record(field("b", none()), field("a", none())), text("spare"), number(7)}
	f := []api.Field{field("b", list(number(3), number(2))), field("a", none()), field("spare", number(8))}
	v := api.Value{Kind: api.Elem, Elem: api.ElHost, S: "a", L: l[:2], F: f[:2]}
	good := api.Value{Kind: api.Record, F: f[:1]}
	for range 2 {
		if value.Check(v) || value.Text(v) != "" || !value.Same(v, v) || value.Shallow(v, v) || value.Size(v) != 9 || value.Deep(v) != 3 {
			t.Error("answers")
		}
		if !value.Check(good) || value.Text(good) != `{"b" [3 2]}` || !value.Shallow(good, good) {
			t.Error("answers, of one that may be")
		}
	}
	if !value.Same(list(l...), list(number(1), record(field("b", none()), field("a", none())), text("spare"), number(7))) ||
		!value.Shallow(record(f...), record(field("b", list(number(3), number(2))), field("a", none()), field("spare", number(8)))) {
		t.Error("changed")
	}
}

// R1: each call ends, whatever it is given.
func TestAnyFields(t *testing.T) {
	for kind := range 256 {
		for _, k := range []api.ElemKind{0, 1, 4, 8, 9, 200, 255} {
			for _, n := range []int64{0, 1, -1 << 63} {
				v := api.Value{Kind: api.Kind(kind), Elem: k, N: n, S: "\xff", Key: long(5000), HasKey: n == 0,
					L: []api.Value{{Kind: api.Kind(kind)}, {Elem: k}}, F: []api.Field{{}, {Name: "\x00", Value: api.Value{Kind: api.Kind(kind), Elem: k}}}}
				if value.Check(v) || value.Text(v) != "" || !value.Same(v, v) || value.Size(v) != 5 || value.Deep(v) != 2 || value.Shallow(v, v) != (v.Kind == api.Record) {
					t.Fatalf("kind %d, element %d", kind, k)
				}
			}
		}
	}
}
