package check_test

import (
	"strings"
	"testing"

	"tapestry/api"
	"tapestry/oper"
)

// P6.1: each operation with as many expressions as it takes, fewer and more; in each place.
func TestOps(t *testing.T) {
	t.Parallel()
	takes := map[string][2]int{
		"add": {2, 2}, "sub": {2, 2}, "mul": {2, 2}, "lt": {2, 2}, "eq": {2, 2}, "not": {1, 1}, "cat": {0, -1}, "len": {1, 1}, "at": {2, 2},
		"get": {2, 2}, "list": {0, -1}, "push": {2, 2}, "text": {1, 1}, "and": {1, -1}, "or": {1, -1},
	}
	for _, name := range oper.Names() {
		if _, ok := takes[name]; !ok {
			t.Errorf("an operation that is not told of: %s", name)
		}
	}
	for name, n := range takes {
		for i := range 8 {
			s := "(" + name + strings.Repeat(" p", i) + ")"
			ok := i >= n[0] && (n[1] < 0 || i <= n[1])
			comes(t, truly(ok), plain("", s))
			if i <= 3 {
				for _, text := range everywhere(s) {
					comes(t, truly(ok), text)
				}
			}
		}
		s := "(" + name + strings.Repeat(" p", 3000) + ")"
		comes(t, truly(n[1] < 0), plain("", s))
		// What it is done to does not count, but how much there is.
		if n[0] == 2 {
			comes(t, api.OK, plain("", "("+name+" (list) (do))"))
			comes(t, api.OK, plain("", "("+name+" none ("+name+" yes \"\"))"))
			comes(t, api.ErrName, plain("", "("+name+" none ("+name+" yes))"))
		}
	}
}

// P6.1: names that are no operation, with however many expressions.
func TestNoOps(t *testing.T) {
	for _, name := range []string{"foo", "Add", "ADD", "ad", "addd", "add-", "-add", "and-", "AND", "nor", "xor", "set", "log", "let", "show", "comp", "stop", "state", "memo", "use", "when", "it", "p", "s", "App", "B", "key", "--", "list."} {
		for i := range 4 {
			comes(t, api.ErrName, shown("("+name+strings.Repeat(" p", i)+")"))
		}
		for _, s := range everywhere("(" + name + " p p)") {
			comes(t, api.ErrName, s)
		}
		comes(t, api.ErrName, plain("(let f 1)", "("+name+")"))
	}
	// Nor is an operation a name that is known.
	for _, name := range append(oper.Names(), "and", "or") {
		comes(t, api.ErrName, shown(name))
		comes(t, api.OK, plain("(let "+name+" 1)", name))
		comes(t, api.ErrName, plain("(let foo 1)", "(foo)"))
	}
}
