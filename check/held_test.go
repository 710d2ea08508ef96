package check_test

import (
	"math"
	"reflect"
	"strings"
	"testing"

	"tapestry/api"
	"tapestry/check"
	"tapestry/lex"
	"tapestry/parse"
)

// held: is Check's answer what the reading asks for?
func held(t *testing.T, p api.Program, why string) api.Errno {
	t.Helper()
	want := read(p)
	comesOf(t, want, p, "%.500s: %.2000v", why, p)
	return want
}

// rich are programs with much that may go wrong; the names are few, so that another one is often one that is known elsewhere.
func rich() []string {
	return append(whole(),
		"(comp App p (state s 0) (let a (add p s)) (when a (let b (not a)) (state r b)) (memo m (a b) (list r)) (use u c) (effect (m u) ((set s it) (log (list it a))) ((set r (do (log it) (set s s))))) (show (list a b m u (each x m (list x (each a x a))))))\n(comp B q (let s q) (show (new - App ((p q) (q s)))))\n",
		"(comp B p (state p0 p) (layout (p0) ((set p0 p)) ()) (show (pure p B ((a p) (b p0)) (new - App ()) (each p p p))))\n(comp App q (let p q) (when (and p q) (when (or p) (let s p)) (let r s)) (show (rec (p p) (q (rec (p r) (q s))))))\n",
		"(comp App it (let a (do (log it) (fail a0))) (show none))\n(comp a0 p (show it))\n",
	)
}

// P6.1: each word of programs as another one, left out, and put in: wherever that is a program, the answer is what the reading asks for.
func TestOneWordOff(t *testing.T) {
	t.Parallel()
	answers := map[api.Errno]int{}
	for _, s := range rich() {
		words := told(s)
		others := map[string]bool{"p": true, "s": true, "it": true, "App": true, "B": true, "zz": true, "5": true, "(foo)": true, "(add p p)": true, "(let zz 1)": true, "(state p 1)": true, "(stop)": true, "(set s it)": true, "(x p)": true, "-": true, "none": true, "()": true}
		for _, w := range words {
			others[w] = true
		}
		for i := range words {
			for other := range others {
				for _, l := range [][]string{{other}, {other, words[i]}, {words[i], other}, {}} {
					text := strings.Join(words[:i], " ") + " " + strings.Join(l, " ") + " " + strings.Join(words[i+1:], " ")
					if p, _, errno := parse.Parse(text); errno == api.OK {
						answers[held(t, p, text)]++
					}
				}
			}
		}
	}
	if answers[api.OK] < 500 || answers[api.ErrName] < 5000 {
		t.Errorf("too few of one kind: %v", answers)
	}
}

// told are the words of a text as they stand in it.
func told(s string) []string {
	l, _, _ := lex.Words(s)
	var all []string
	for _, w := range l {
		switch w.Kind {
		case api.WOpen:
			all = append(all, "(")
		case api.WClose:
			all = append(all, ")")
		case api.WName:
			all = append(all, w.S)
		case api.WText:
			all = append(all, `"`+w.S+`"`)
		default:
			all = append(all, "7")
		}
	}
	return all
}

// otherThings are values of a field's type that may stand in its place.
func otherThings(v reflect.Value) []reflect.Value {
	var all []reflect.Value
	add := func(x any) { all = append(all, reflect.ValueOf(x).Convert(v.Type())) }
	switch v.Kind() {
	case reflect.String:
		for _, s := range []string{"", "yes", "p", "q", "s", "a", "it", "App", "B", "add", "list", "value", "App#0"} {
			add(s)
		}
	case reflect.Int64:
		for _, n := range []int64{0, 1, 2, math.MinInt64} {
			add(n)
		}
	case reflect.Uint8:
		for k := range 15 {
			add(k)
		}
		add(255)
	case reflect.Slice:
		add(reflect.Zero(v.Type()).Interface())
		n := v.Len()
		add(reflect.AppendSlice(reflect.MakeSlice(v.Type(), 0, n+1), v).Interface())
		add(reflect.Append(reflect.AppendSlice(reflect.MakeSlice(v.Type(), 0, n+1), v), reflect.Zero(v.Type().Elem())).Interface())
		if n > 0 {
			add(reflect.Append(reflect.AppendSlice(reflect.MakeSlice(v.Type(), 0, n+1), v), v.Index(0)).Interface())
			add(reflect.AppendSlice(reflect.MakeSlice(v.Type(), 0, n), v.Slice(1, n)).Interface())
			add(reflect.AppendSlice(reflect.MakeSlice(v.Type(), 0, n), v.Slice(0, n-1)).Interface())
		}
	case reflect.Struct:
		if v.Type() == reflect.TypeFor[api.Expr]() {
			add(api.Expr{Kind: api.ExName, S: "it"})
			add(api.Expr{Kind: api.ExName, S: "s"})
			add(api.Expr{Kind: api.ExOp, S: "and"})
			add(api.Expr{Kind: api.ExElem, Elem: api.ElMemo, S: "B"})
			add(api.Expr{Kind: api.ExBool, N: 3})
		}
	}
	return all
}

// P6.1: programs with each field, in each place, as another one.
func TestOneFieldOff(t *testing.T) {
	answers := map[api.Errno]int{}
	for _, s := range rich() {
		p := of(t, s)
		places(reflect.ValueOf(&p).Elem(), func(v reflect.Value) {
			old := reflect.ValueOf(v.Interface())
			for _, other := range otherThings(v) {
				v.Set(other)
				answers[held(t, p, s)]++
			}
			v.Set(old)
		})
		comesOf(t, read(p), p, "%s, as it was", s)
	}
	if answers[api.OK] < 500 || answers[api.ErrArg] < 5000 || answers[api.ErrName] < 500 {
		t.Errorf("too few of one kind: %v", answers)
	}
}

// P6.1, R1: programs with some fields, wherever they stand, as other ones; and things of one program in another one.
func TestSomeFieldsOff(t *testing.T) {
	t.Parallel()
	state := uint32(1)
	next := func(n int) int {
		state = state*1664525 + 1013904223
		return int(state>>16) % n
	}
	answers := map[api.Errno]int{}
	for i := range 8000 {
		p := of(t, rich()[i%len(rich())])
		if i%3 == 0 {
			p = append(p, of(t, rich()[next(len(rich()))])...)
		}
		for range 1 + next(3) {
			var at []reflect.Value
			places(reflect.ValueOf(&p).Elem(), func(v reflect.Value) { at = append(at, v) })
			v := at[next(len(at))]
			if l := otherThings(v); len(l) > 0 {
				v.Set(l[next(len(l))])
			}
		}
		answers[held(t, p, "")]++
	}
	if answers[api.OK] < 100 || answers[api.ErrArg] < 1000 || answers[api.ErrName] < 1000 {
		t.Errorf("too few of one kind: %v", answers)
	}
}

// P6.1: near both limits, as the reading counts.
func TestReadingOfLimits(t *testing.T) {
	t.Parallel()
	for _, w := range wides() {
		for _, n := range []int{w.parts + 2*w.size, 100} {
			if n < w.parts {
				continue
			}
			p := w.of(t, n)
			if errno := held(t, p, w.text); errno != api.OK {
				t.Errorf("%d parts of %s in %s: error %d", n, w.thing, w.text, errno)
			}
		}
	}
	for _, a := range aroundExpr() {
		for n := range 70 {
			held(t, of(t, shown(deepOf(put("1", a), n))), a)
		}
	}
}

// P6.1, R1: structs of whatever is in them.
func TestAnyStructs(t *testing.T) {
	state := uint32(7)
	next := func(n int) int {
		state = state*1664525 + 1013904223
		return int(state>>16) % n
	}
	for range 20000 {
		p := make(api.Program, next(3))
		wild(reflect.ValueOf(&p).Elem(), 0, next)
		if errno := check.Check(p); errno != read(p) {
			t.Errorf("%.1000v: error %d", p, errno)
		}
	}
}

// wild fills v with something, no deeper than a few within one another.
func wild(v reflect.Value, deep int, next func(int) int) {
	switch v.Kind() {
	case reflect.String:
		v.SetString([]string{"", "", "p", "App", "x", "add", "yes", "it", "App#0", "\xff"}[next(10)])
	case reflect.Int64:
		v.SetInt(int64(next(4)) - 1)
	case reflect.Uint8:
		v.SetUint(uint64(next(15)))
	case reflect.Slice:
		if deep > 0 && (next(3) > 0 || deep > 6) {
			return
		}
		v.Set(reflect.MakeSlice(v.Type(), next(3), 2))
		for i := range v.Len() {
			wild(v.Index(i), deep+1, next)
		}
	case reflect.Struct:
		for i := range v.NumField() {
			if next(2) == 0 {
				wild(v.Field(i), deep+1, next)
			}
		}
	}
}
