package print_test

import (
	"math"
	"reflect"
	"strings"
	"testing"

	"tapestry/api"
	"tapestry/print"
)

// others are values of a field's type that may stand in its place.
func others(v reflect.Value) []reflect.Value {
	var all []reflect.Value
	add := func(x any) { all = append(all, reflect.ValueOf(x).Convert(v.Type())) }
	switch v.Kind() {
	case reflect.String:
		for _, s := range []string{"", "yes", "-", "x", "z", "A", "do", "value", "else", "again", "a b", "5", "a,", "A#0", "A#1", v.String() + "x"} {
			add(s)
		}
	case reflect.Int64:
		for _, n := range []int64{0, 1, 2, -1, math.MinInt64, math.MaxInt64} {
			add(n)
		}
	case reflect.Uint8:
		for k := range 16 {
			add(k)
		}
		add(255)
	case reflect.Slice:
		all = otherLists(v)
	case reflect.Struct:
		if v.Type() == reflect.TypeFor[api.Expr]() {
			for _, e := range notNone {
				add(e)
			}
			add(zero)
			add(api.Expr{Kind: api.ExName, S: "x"})
			add(api.Expr{Kind: api.ExDeed, Site: "A#0"})
			add(api.Expr{Kind: api.ExDeed, Site: "A#1", Acts: []api.Act{{Kind: api.AcLog, Expr: api.Expr{Kind: api.ExDeed, Site: "A#2"}}}})
			add(api.Expr{Kind: api.ExElem, Elem: api.ElFrag, Args: []api.Expr{one}})
		}
	}
	return all
}

// otherLists: with a thing less, with one more, in another order.
func otherLists(v reflect.Value) []reflect.Value {
	more := reflect.Zero(v.Type().Elem())
	all := []reflect.Value{reflect.Zero(v.Type()), reflect.MakeSlice(v.Type(), 0, 1), reflect.Append(list(v, 0, v.Len()), more), reflect.AppendSlice(reflect.Append(list(v, 0, 0), more), v)}
	if n := v.Len(); n > 0 {
		all = append(all, list(v, 0, n-1), list(v, 1, n), reflect.Append(list(v, 0, n), v.Index(n-1)), reflect.Append(list(v, 1, n), v.Index(0)))
	}
	return all
}

// list is a new one of v's things from i to j.
func list(v reflect.Value, i, j int) reflect.Value {
	return reflect.AppendSlice(reflect.MakeSlice(v.Type(), 0, j-i), v.Slice(i, j))
}

// answers: is this what the patterns and Parse ask for? The text is answered.
func answers(t *testing.T, p api.Program) (string, bool) {
	t.Helper()
	want, wantErrno := wanted(p)
	s, errno := print.Text(p)
	if s != want || errno != wantErrno {
		t.Errorf("%.300q: %.300q, error %d, want error %d: %+v", plainly(p), s, errno, wantErrno, p)
	}
	return s, errno == api.OK
}

// begins: are the components of b the first ones of a?
func begins(a, b api.Program) bool { return len(b) <= len(a) && samePrograms(a[:len(b)], b) }

// P5.1, P5.2: programs with each field, in each place, as another one: which are a text's, and that those have unlike texts, none of which begins the other one.
func TestOneFieldOff(t *testing.T) {
	good, bad := 0, 0
	for _, s := range whole() {
		p, was := of(t, s), of(t, s)
		places(reflect.ValueOf(&p).Elem(), func(v reflect.Value) {
			old := reflect.ValueOf(v.Interface())
			for _, other := range others(v) {
				v.Set(other)
				told, ok := answers(t, p)
				if !ok {
					bad++
					continue
				}
				good++
				if samePrograms(p, was) != (told == s) || begins(p, was) != strings.HasPrefix(told, s) || begins(was, p) != strings.HasPrefix(s, told) {
					t.Errorf("%q beside %q", told, s)
				}
			}
			v.Set(old)
		})
		tells(t, p, s)
	}
	if good < 1000 || bad < 1000 {
		t.Errorf("%d programs of a text, %d of none", good, bad)
	}
}

// P5.1, R1: programs with some fields, wherever they stand, as other ones.
func TestSomeFieldsOff(t *testing.T) {
	state := uint32(1)
	next := func(n int) int {
		state = state*1664525 + 1013904223
		return int(state>>16) % n
	}
	good, bad := 0, 0
	for i := range 6000 {
		p := of(t, whole()[i%len(whole())])
		for range 1 + next(4) {
			var at []reflect.Value
			places(reflect.ValueOf(&p).Elem(), func(v reflect.Value) { at = append(at, v) })
			v := at[next(len(at))]
			if l := others(v); len(l) > 0 {
				v.Set(l[next(len(l))])
			}
		}
		if _, ok := answers(t, p); ok {
			good++
		} else {
			bad++
		}
	}
	if good < 100 || bad < 100 {
		t.Errorf("%d programs of a text, %d of none", good, bad)
	}
}
