package oper_test

import (
	"testing"

	"tapestry/api"
	"tapestry/oper"
	"tapestry/value"
)

// rooms counts by how many lists each place of memory in v is reached, spare room too.
type rooms struct {
	values map[*api.Value]int
	fields map[*api.Field]int
}

func (r rooms) look(v api.Value) {
	l, f := v.L[:cap(v.L)], v.F[:cap(v.F)]
	for i := range l {
		r.values[&l[i]]++
	}
	for i := range f {
		r.fields[&f[i]]++
	}
	for i := range v.L {
		r.look(v.L[i])
	}
	for i := range v.F {
		r.look(v.F[i].Value)
	}
}

func look(l ...api.Value) rooms {
	r := rooms{map[*api.Value]int{}, map[*api.Field]int{}}
	for _, v := range l {
		r.look(v)
	}
	return r
}

// apart: is each place of memory in v just in one list of v, and in none of the others?
func apart(v api.Value, others rooms) bool {
	r := look(v)
	for p, n := range r.values {
		if n > 1 || others.values[p] > 0 {
			return false
		}
	}
	for p, n := range r.fields {
		if n > 1 || others.fields[p] > 0 {
			return false
		}
	}
	return true
}

// spare is a list or record with spare room that is filled.
func spare(v api.Value) api.Value {
	l := append(append([]api.Value{}, v.L...), text("spare"), number(77))
	f := append(append([]api.Field{}, v.F...), field("zz", text("spare")), field("zzz", number(77)))
	v.L, v.F = l[:len(v.L)], f[:len(v.F)]
	return v
}

// asked are calls with lists that share memory among themselves and have spare room.
func asked() map[string][][]api.Value {
	inner := spare(list(number(1), number(2)))
	rec := spare(record(field("a", inner), field("b", inner)))
	el := spare(host([]api.Field{field("a", inner)}, inner, rec))
	knows := spare(deed(field("x", inner), field("y", rec)))
	l := spare(list(inner, rec, el, knows, inner, spare(number(5))))
	return map[string][][]api.Value{
		"list": {{}, {inner}, {inner, inner}, {l, l}, {rec, el, knows}, {spare(list()), spare(record()), spare(none())}},
		"push": {{l, inner}, {inner, inner}, {spare(list()), l}, {l, l}, {spare(list()), spare(list())}},
		"at":   {{l, number(0)}, {l, number(1)}, {l, number(2)}, {l, number(3)}, {l, number(5)}, {l, number(6)}, {inner, number(0)}},
		"get":  {{rec, text("a")}, {rec, text("b")}, {spare(record(field("r", rec))), text("r")}, {rec, text("c")}},
		"text": {{inner}, {rec}, {spare(text("x"))}},
		"eq":   {{l, l}, {rec, inner}},
		"len":  {{l}, {spare(text("x"))}},
		"add":  {{spare(number(1)), spare(number(2))}},
		"sub":  {{spare(number(1)), spare(number(2))}},
		"mul":  {{spare(number(1)), spare(number(2))}},
		"lt":   {{spare(text("a")), spare(text("b"))}},
		"cat":  {{spare(text("a")), spare(number(2))}},
		"not":  {{spare(yes())}},
		// And some that answer false.
		"foo": {{l, inner}},
	}
}

// whole is a copy of v, whose lists hold what stands in their spare room, too.
func whole(v api.Value) api.Value {
	v.L = append([]api.Value{}, v.L[:cap(v.L)]...)
	for i := range v.L {
		v.L[i] = whole(v.L[i])
	}
	v.F = append([]api.Field{}, v.F[:cap(v.F)]...)
	for i := range v.F {
		v.F[i].Value = whole(v.F[i].Value)
	}
	return v
}

// R4: what is handed in is not changed, its spare room neither; what is answered shares memory with nothing.
func TestMemory(t *testing.T) {
	for name, calls := range asked() {
		for i, args := range calls {
			args = append(append([]api.Value{}, args...), text("spare"))[:len(args)]
			before := whole(list(args...))
			v, ok := oper.Do(name, args)
			again, _ := oper.Do(name, args)
			if ok != (name != "foo") {
				t.Errorf("%s %d: %v", name, i, ok)
			}
			if !value.Same(before, whole(list(args...))) {
				t.Errorf("%s %d: what was handed in is another one", name, i)
			}
			if !value.Same(v, again) {
				t.Errorf("%s %d: the second answer is another one", name, i)
			}
			if !apart(v, look(list(args...))) || !apart(v, look(again)) {
				t.Errorf("%s %d: memory is shared", name, i)
			}
		}
	}
}

// R4: what was handed in is kept by its content alone: filled with something else afterwards, it changes no answer.
func TestKeptByContent(t *testing.T) {
	for name, calls := range asked() {
		for i := range calls {
			args := asked()[name][i]
			v, _ := oper.Do(name, args)
			before := deepCopy(v)
			spoil(list(args...))
			if !value.Same(v, before) {
				t.Errorf("%s %d: the answer is another one", name, i)
			}
		}
	}
}

// spoil overwrites all lists of v, from within.
func spoil(v api.Value) {
	for i := range v.L {
		spoil(v.L[i])
	}
	for i := range v.F {
		spoil(v.F[i].Value)
	}
	clear(v.L[:cap(v.L)])
	clear(v.F[:cap(v.F)])
}
