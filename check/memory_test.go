package check_test

import (
	"reflect"
	"sync"
	"testing"

	"tapestry/api"
	"tapestry/check"
)

// roomy is a copy whose lists have spare room, with something in it.
func roomy(v reflect.Value) reflect.Value {
	c := reflect.New(v.Type()).Elem()
	c.Set(v)
	switch v.Kind() {
	case reflect.Slice:
		n := v.Len()
		l := reflect.MakeSlice(v.Type(), n+2, n+2)
		for i := range n {
			l.Index(i).Set(roomy(v.Index(i)))
		}
		for i := range 2 {
			fill(l.Index(n + i))
		}
		c.Set(l.Slice(0, n))
	case reflect.Struct:
		for i := range v.NumField() {
			c.Field(i).Set(roomy(v.Field(i)))
		}
	}
	return c
}

// fill makes v something that is not zero, and would be wrong.
func fill(v reflect.Value) {
	switch v.Kind() {
	case reflect.String:
		v.SetString("spare")
	case reflect.Struct:
		fill(v.Field(1))
	}
}

// bare is a copy whose lists hold what stands in their spare room, too.
func bare(v reflect.Value) reflect.Value {
	c := reflect.New(v.Type()).Elem()
	c.Set(v)
	switch v.Kind() {
	case reflect.Slice:
		l := reflect.MakeSlice(v.Type(), v.Cap(), v.Cap())
		for i := range v.Cap() {
			l.Index(i).Set(bare(v.Slice(0, v.Cap()).Index(i)))
		}
		c.Set(l)
	case reflect.Struct:
		for i := range v.NumField() {
			c.Field(i).Set(bare(v.Field(i)))
		}
	}
	return c
}

// R4, R5: what is handed in is left as it was, its spare room too, whatever is answered; the answer is the same once more, and hangs on no spare room.
func TestMemory(t *testing.T) {
	t.Parallel()
	texts := append(some(), everywhere("p")...)
	for _, f := range faults() {
		texts = append(texts, plain("(let a p)", f.expr))
	}
	for _, s := range texts {
		p := faulty(t, s)
		want := read(p)
		given := roomy(reflect.ValueOf(p))
		before := bare(given)
		for range 2 {
			comesOf(t, want, given.Interface().(api.Program), "%.200s", s)
			if !reflect.DeepEqual(before.Interface(), bare(given).Interface()) {
				t.Errorf("%.200s: what was handed in is another one", s)
			}
		}
		comesOf(t, want, p, "%.200s, without spare room", s)
	}
}

// R4: empty lists are as nil ones.
func TestEmptyLists(t *testing.T) {
	for _, s := range some() {
		p := of(t, s)
		want := read(p)
		places(reflect.ValueOf(&p).Elem(), func(v reflect.Value) {
			if v.Kind() == reflect.Slice && v.Len() == 0 {
				v.Set(reflect.MakeSlice(v.Type(), 0, 1))
			}
		})
		comesOf(t, want, p, "%.200s with lists that are empty", s)
		places(reflect.ValueOf(&p).Elem(), func(v reflect.Value) {
			if v.Kind() == reflect.Slice && v.Len() == 0 {
				v.SetZero()
			}
		})
		comesOf(t, want, p, "%.200s with lists that are nil", s)
	}
}

// R5: nothing is kept from one call to the next, nor shared by calls at once; parts may share memory.
func TestCallsApart(t *testing.T) {
	texts := some()
	var all []api.Program
	var want []api.Errno
	for _, s := range texts {
		p := of(t, s)
		all, want = append(all, p), append(want, read(p))
	}
	for i := range all {
		for j := range all {
			comesOf(t, want[i], all[i], "%.200s", texts[i])
			comesOf(t, want[j], all[j], "%.200s behind another one", texts[j])
		}
	}
	var wait sync.WaitGroup
	for i := range all {
		for range 4 {
			wait.Add(1)
			go func() {
				defer wait.Done()
				if errno := check.Check(all[i]); errno != want[i] {
					t.Errorf("%.200s beside others: error %d", texts[i], errno)
				}
			}()
		}
	}
	wait.Wait()
	args := []api.Expr{{Kind: api.ExName, S: "p"}, {Kind: api.ExName, S: "x"}}
	p := api.Program{{Name: "App", Param: "p", Body: []api.Stmt{{Kind: api.StMemo, Name: "m", Deps: args[:1]}, {Kind: api.StLet, Name: "x", Expr: api.Expr{Kind: api.ExOp, S: "list", Args: args[:1]}}}, Out: api.Expr{Kind: api.ExOp, S: "list", Args: args}}}
	comesOf(t, api.OK, p, "lists that are shared")
	p[0].Body[0].Deps = args
	comesOf(t, api.ErrName, p, "lists that are shared, of a name that is not known yet")
}
