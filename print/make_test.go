package print_test

import (
	"fmt"
	"reflect"
	"strings"
	"testing"

	"tapestry/api"
	"tapestry/parse"
	"tapestry/print"
)

// of is the program of a text.
func of(t *testing.T, s string) api.Program {
	t.Helper()
	p, line, errno := parse.Parse(s)
	if errno != api.OK {
		t.Fatalf("%.200q: error %d in the line %d", s, errno, line)
	}
	return p
}

// tells: is this the program's text?
func tells(t *testing.T, p api.Program, want string) {
	t.Helper()
	s, errno := print.Text(p)
	if errno != api.OK || s != want {
		t.Errorf("%.300q, error %d, want %.300q", s, errno, want)
	}
}

// itself: is a text, as parsed, told so again?
func itself(t *testing.T, s string) {
	t.Helper()
	tells(t, of(t, s), s)
}

// fails: is it that error, and no text beside it?
func fails(t *testing.T, p api.Program, want api.Errno, why string, args ...any) {
	t.Helper()
	if s, errno := print.Text(p); errno != want || s != "" {
		t.Errorf("%s: %.300q, error %d, want error %d", fmt.Sprintf(why, args...), s, errno, want)
	}
}

// shown is the text of a component that shows s; stated that of one with the statement s.
func shown(s string) string { return "(comp App p (show " + s + "))\n" }

func stated(s string) string { return "(comp App p " + s + " (show none))\n" }

// long is a text of n bytes.
func long(n int) string { return strings.Repeat("x", n) }

// The values of reflection are all a program's parts, or lists of them.

// same: are two the same? Lists that are empty and nil are.
func same(a, b reflect.Value) bool {
	switch a.Kind() {
	case reflect.Slice:
		if a.Len() != b.Len() {
			return false
		}
		for i := range a.Len() {
			if !same(a.Index(i), b.Index(i)) {
				return false
			}
		}
		return true
	case reflect.Struct:
		for i := range a.NumField() {
			if !same(a.Field(i), b.Field(i)) {
				return false
			}
		}
		return true
	}
	return a.Equal(b)
}

func samePrograms(a, b api.Program) bool { return same(reflect.ValueOf(a), reflect.ValueOf(b)) }

// places visits all that can be set in what v holds, from above; what is set ahead of going on is gone on with.
func places(v reflect.Value, visit func(v reflect.Value)) {
	visit(v)
	switch v.Kind() {
	case reflect.Slice:
		for i := range v.Len() {
			places(v.Index(i), visit)
		}
	case reflect.Struct:
		for i := range v.NumField() {
			places(v.Field(i), visit)
		}
	}
}

// renamed is a text's program with each text that is `HERE` in it as another one.
func renamed(t *testing.T, s, as string) api.Program {
	t.Helper()
	p := of(t, s)
	places(reflect.ValueOf(&p).Elem(), func(v reflect.Value) {
		if v.Kind() == reflect.String && v.String() == "HERE" {
			v.SetString(as)
		}
	})
	return p
}

// whole are texts that have each row of the grammar within, with lists of none, one and more.
func whole() []string {
	return []string{
		"(comp App p (show none))\n",
		"(comp App p (show none))\n(comp B q (let a 5) (show a))\n",
		"(comp A p (let a 5) (state b no) (use c d) (show x))\n",
		"(comp A p (memo a () yes) (memo b (c 1) x) (show -7))\n",
		"(comp A p (layout () () ()) (layout (a) ((stop)) ((log 1))) (show x))\n",
		"(comp A p (effect () () ()) (effect (a 1) ((stop) (fail x)) ((log 1) (set a 2))) (show x))\n",
		"(comp A p (when a) (when b (let c 1) (when d (use e f))) (show x))\n",
		"(comp A p (show (f (g) (if a 1 2) (each x y z) (read k) (throw e))))\n",
		"(comp A p (show (f (rec) (rec (a 1)) (rec (b yes) (c x)))))\n",
		"(comp A p (let a (do)) (show (do (stop) (set b (do (log (do)) (fail (do)))))))\n",
		"(comp A p (show (f (host - a ()) (host k b ((c 1) (d \"x\")) 5 \"y\"))))\n",
		"(comp A p (show (f (new - a ()) (pure (g) b ((c (do))) 5))))\n",
		"(comp A p (show (f (frag -) (frag k 1 2) (portal - a) (portal k b 1))))\n",
		"(comp A p (show (f (give - a 1) (give k b (do) 2) (wait - 1) (wait k 2 3))))\n",
		"(comp A p (show (f (guard - 1 2) (guard k (do) x 3))))\n",
	}
}

// holed is a text's program with e in the place of each name HERE. Deeds behind e keep their sites.
func holed(t *testing.T, s string, e api.Expr) api.Program {
	t.Helper()
	p := of(t, s)
	places(reflect.ValueOf(&p).Elem(), func(v reflect.Value) {
		if x, ok := v.Interface().(api.Expr); ok && x.Kind == api.ExName && x.S == "HERE" {
			v.Set(reflect.ValueOf(e))
		}
	})
	return p
}

// contains: is it one of these words?
func contains(words, s string) bool { return strings.Contains(" "+words+" ", " "+s+" ") }
