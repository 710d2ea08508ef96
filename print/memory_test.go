package print_test

import (
	"reflect"
	"testing"

	"tapestry/api"
	"tapestry/print"
)

// roomy is a copy whose lists have spare room, with something in it.
func roomy(v reflect.Value) reflect.Value {
	c := reflect.New(v.Type()).Elem()
	c.Set(v)
	switch v.Kind() {
	case reflect.Slice:
		l := reflect.MakeSlice(v.Type(), 0, v.Len()+2)
		for i := range v.Len() {
			l = reflect.Append(l, roomy(v.Index(i)))
		}
		n := l.Len()
		for i := range 2 {
			spare := l.Slice(0, l.Cap()).Index(n + i)
			fill(spare)
		}
		c.Set(l)
	case reflect.Struct:
		for i := range v.NumField() {
			c.Field(i).Set(roomy(v.Field(i)))
		}
	}
	return c
}

// fill makes v something that is not zero.
func fill(v reflect.Value) {
	switch v.Kind() {
	case reflect.String:
		v.SetString("spare")
	case reflect.Struct:
		fill(v.Field(1))
	}
}

// bare is a copy whose lists hold what stands in their spare room, too.
func bare(v reflect.Value) reflect.Value {
	c := reflect.New(v.Type()).Elem()
	c.Set(v)
	switch v.Kind() {
	case reflect.Slice:
		l := reflect.MakeSlice(v.Type(), 0, v.Cap())
		for i := range v.Cap() {
			l = reflect.Append(l, bare(v.Slice(0, v.Cap()).Index(i)))
		}
		c.Set(l)
	case reflect.Struct:
		for i := range v.NumField() {
			c.Field(i).Set(bare(v.Field(i)))
		}
	}
	return c
}

// R4, R5: what is handed in is left as it was, its spare room too; it is not kept; empty lists are as nil ones.
func TestMemory(t *testing.T) {
	for _, s := range whole() {
		p := of(t, s)
		roomyOne := roomy(reflect.ValueOf(p))
		before := bare(roomyOne)
		q := roomyOne.Interface().(api.Program)
		tells(t, q, s)
		if !reflect.DeepEqual(before.Interface(), bare(roomyOne).Interface()) {
			t.Errorf("%q: what was handed in is another one", s)
		}
		q[0].Param = "no"
		before = bare(roomyOne)
		fails(t, q, api.ErrArg, "a wrong one")
		if !reflect.DeepEqual(before.Interface(), bare(roomyOne).Interface()) {
			t.Errorf("%q: what was handed in with an error is another one", s)
		}
		told, _ := print.Text(p)
		places(reflect.ValueOf(&p).Elem(), func(v reflect.Value) {
			if v.Kind() != reflect.Slice && v.Kind() != reflect.Struct {
				v.SetZero()
			}
		})
		if told != s {
			t.Errorf("%q: the answer is another one", s)
		}
	}
}
