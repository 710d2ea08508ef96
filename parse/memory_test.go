package parse_test

import (
	"reflect"
	"testing"

	"tapestry/api"
	"tapestry/parse"
)

// room counts by how many lists each place of memory is reached, spare room too.
type room map[any]int

func (r room) look(v reflect.Value) {
	switch v.Kind() {
	case reflect.Slice:
		whole := v.Slice(0, v.Cap())
		for i := range whole.Len() {
			r[whole.Index(i).Addr().Interface()]++
		}
		for i := range v.Len() {
			r.look(v.Index(i))
		}
	case reflect.Struct:
		for i := range v.NumField() {
			r.look(v.Field(i))
		}
	}
}

// apart: is no place of memory in two lists, of one of these or of both?
func apart(a, b any) bool {
	r := room{}
	r.look(reflect.ValueOf(a))
	r.look(reflect.ValueOf(b))
	for _, n := range r {
		if n > 1 {
			return false
		}
	}
	return len(r) > 0
}

// R4, R5: two answers, and the lists within one, share no memory; each call answers the same.
func TestMemory(t *testing.T) {
	all := append(whole(), everyDeed())
	for _, r := range exprRows() {
		for _, w := range exprsOf(r) {
			all = append(all, shown("(f "+w.s+w.s+")"))
		}
	}
	for _, s := range all {
		a, b := got(t, s), got(t, s)
		if !same(a, b) || !apart(a, b) {
			t.Errorf("%.200s: memory is shared", s)
		}
	}
}

func everyDeed() string {
	s, _ := named(everywhere)
	return "(comp A" + s[len("(comp %s"):]
}

// R4: an answer that is overwritten changes no later one.
func TestOverwritten(t *testing.T) {
	for _, s := range append(whole(), everyDeed()) {
		want := tell(got(t, s))
		p := got(t, s)
		spoil(p)
		clear(p[:cap(p)])
		if tell(got(t, s)) != want {
			t.Errorf("%.200s: the second answer is another one", s)
		}
	}
}

func spoil(p api.Program) {
	for i := range p {
		clear(p[i].Body[:cap(p[i].Body)])
		out := &p[i].Out
		clear(out.Args[:cap(out.Args)])
		clear(out.Names[:cap(out.Names)])
		clear(out.Vals[:cap(out.Vals)])
		clear(out.Key[:cap(out.Key)])
		clear(out.Acts[:cap(out.Acts)])
	}
}

// R4, R5: of values likewise.
func TestMemoryOfValues(t *testing.T) {
	for _, s := range []string{`[[] [1] [1 2 3] {} {"a" [1 {"b" none}] "c" [1]}]`, `{"a" {"a" [1 2 3]} "b" {"a" [1 2 3]}}`, `[[[[1]]]]`} {
		a, _ := parse.Value(s)
		b, errno := parse.Value(s)
		if errno != api.OK || !reflect.DeepEqual(a, b) || !apart(a, b) {
			t.Errorf("%s: memory is shared", s)
		}
	}
}
