package oper_test

import (
	"math"
	"testing"

	"tapestry/api"
	"tapestry/oper"
	"tapestry/value"
)

// some are values that may be, of all kinds and sizes.
func some() []api.Value {
	l := []api.Value{number(2), number(12), number(-1), number(math.MaxInt64), number(math.MinInt64), text("b"), text("aa"), text("1"), text("\xff"),
		long(2048), long(api.MaxText), wide(2048), wide(api.MaxNodes), deep(api.MaxDeep - 1), deep(api.MaxDeep), list(deed()), list(list()), list(none(), none())}
	for k := api.None; k <= api.Deed; k++ {
		l = append(l, kinds()[k]...)
	}
	return l
}

func do(t *testing.T, name string, args ...api.Value) api.Value {
	t.Helper()
	v, ok := oper.Do(name, args)
	if !ok {
		t.Fatalf("%s of %.100s: false", name, tell(args))
	}
	return v
}

// P2.3: what is answered may be, and beside a false there is a zero value.
func TestAnswersMayBe(t *testing.T) {
	answers := 0
	look := func(name string, args ...api.Value) {
		v, ok := oper.Do(name, args)
		if ok {
			answers++
		}
		if !value.Check(v) || !ok && !value.Same(v, api.Value{}) {
			t.Errorf("%s of %.100s: %.100s, %v", name, tell(args), tell([]api.Value{v}), ok)
		}
	}
	for _, name := range oper.Names() {
		look(name)
		for _, a := range some() {
			look(name, a)
			for _, b := range some() {
				look(name, a, b)
			}
			look(name, a, a, a)
		}
	}
	if answers < 1000 {
		t.Errorf("just %d answers", answers)
	}
}

// P2.3: add and sub undo one another.
func TestAddSub(t *testing.T) {
	all := []int64{0, 1, -1, 5, -7, 1 << 32, math.MaxInt64, math.MaxInt64 - 1, math.MinInt64, math.MinInt64 + 1}
	for _, n := range all {
		for _, m := range all {
			a, b := number(n), number(m)
			comes(t, a, "sub", do(t, "add", a, b), b)
			comes(t, a, "add", do(t, "sub", a, b), b)
		}
	}
}

// P2.3: lt of at most one order, and eq if of neither.
func TestLtEq(t *testing.T) {
	for _, kind := range []api.Kind{api.Int, api.Text} {
		for _, a := range some() {
			for _, b := range some() {
				if a.Kind != kind || b.Kind != kind {
					continue
				}
				n := do(t, "lt", a, b).N + do(t, "lt", b, a).N + do(t, "eq", a, b).N
				if n != 1 {
					t.Errorf("%.50s, %.50s: %d of lt, lt and eq", value.Text(a), value.Text(b), n)
				}
			}
		}
	}
}

// P2.3: at of what push made.
func TestPushAt(t *testing.T) {
	n := 0
	for _, l := range some() {
		for _, v := range some() {
			pushed, ok := oper.Do("push", []api.Value{l, v})
			if !ok {
				continue
			}
			n++
			comes(t, v, "at", pushed, do(t, "len", l))
			comes(t, none(), "at", pushed, do(t, "len", pushed))
		}
	}
	if n < 100 {
		t.Errorf("just %d were pushed", n)
	}
}

// P2.3: cat of two, and of that and a third one, is cat of all three.
func TestCatOfCat(t *testing.T) {
	var l []api.Value
	for _, v := range some() {
		if v.Kind == api.Int || v.Kind == api.Text {
			l = append(l, v)
		}
	}
	for _, a := range l {
		for _, b := range l {
			ab, ok := oper.Do("cat", []api.Value{a, b})
			for _, c := range l {
				whole, okWhole := oper.Do("cat", []api.Value{a, b, c})
				steps, okSteps := oper.Do("cat", []api.Value{ab, c})
				if okWhole != (ok && okSteps) || okWhole && !value.Same(whole, steps) {
					t.Errorf("%.50s, %.50s, %.50s", value.Text(a), value.Text(b), value.Text(c))
				}
			}
		}
	}
}
