package check_test

import (
	"strings"
	"testing"

	"tapestry/api"
)

// comp is a component of that name that shows s.
func comp(name, s string) string { return "(comp " + name + " p (show " + s + "))\n" }

// P6.1: two components of one name, next to one another and far apart, of whatever name.
func TestCompsTwice(t *testing.T) {
	names := []string{"App", "B", "C", "a", "app", "App0", "p", "it", "and", "comp", "--"}
	for i := range names {
		var l []string
		for _, n := range names {
			l = append(l, comp(n, "none"))
		}
		comes(t, api.OK, strings.Join(l, ""))
		for j := range len(names) + 1 {
			twice := append(append(append([]string{}, l[:j]...), l[i]), l[j:]...)
			comes(t, api.ErrName, strings.Join(twice, ""))
			twice[j] = "(comp " + names[i] + " q (let a 1) (show a))"
			comes(t, api.ErrName, strings.Join(twice, ""))
		}
	}
	comes(t, api.ErrName, comp("App", "none")+comp("B", "none")+comp("C", "none")+comp("B", "none")+comp("C", "none"))
	comes(t, api.ErrName, strings.Repeat(comp("App", "none"), 3))
}

// P6.1: no App; names that are nearly it.
func TestNoApp(t *testing.T) {
	for _, n := range []string{"B", "app", "APP", "App0", "Ap", "App-", "-App", "App.", "a", "p", "none-"} {
		comes(t, api.ErrName, comp(n, "none"))
		comes(t, api.ErrName, comp(n, "none")+comp("C", "none"))
		comes(t, api.OK, comp(n, "none")+comp("App", "none"))
		comes(t, api.OK, comp("App", "none")+comp(n, "none"))
		comes(t, api.ErrName, comp(n, "(host - App ())"))
	}
	comes(t, api.ErrName, "(comp B App (let a App) (show a))")
	comesOf(t, api.ErrName, nil, "nil")
	comesOf(t, api.ErrName, make(api.Program, 0, 5), "no components, with spare room")
}

// P6.1: new and pure of components that stand ahead and behind, of itself, of none; alone, and in each place.
func TestNew(t *testing.T) {
	for _, word := range []string{"new", "pure"} {
		of := func(name string) string { return "(" + word + " - " + name + " ())" }
		comes(t, api.OK, comp("App", of("App")))
		comes(t, api.OK, comp("App", of("B"))+comp("B", "none"))
		comes(t, api.OK, comp("B", "none")+comp("App", of("B")))
		comes(t, api.OK, comp("B", of("App"))+comp("App", "none"))
		comes(t, api.OK, comp("App", "none")+comp("B", of("App")))
		comes(t, api.OK, comp("App", "none")+comp("B", of("B")))
		comes(t, api.OK, comp("App", of("D"))+comp("B", of("C"))+comp("C", of("B"))+comp("D", of("App")))
		for _, n := range []string{"C", "b", "B0", "app", "p", "s", "it", "App#0", "div", "add"} {
			comes(t, api.ErrName, comp("App", of(n)))
			for _, s := range everywhere(of(n)) {
				comes(t, api.ErrName, s)
			}
			comes(t, api.ErrName, comp("App", "none")+comp("B", of(n)))
			comes(t, api.ErrName, comp("B", of(n))+comp("App", "none"))
			comes(t, api.OK, comp("B", of(n))+comp("App", "none")+comp(n, "none"))
		}
		for _, n := range []string{"App", "B"} {
			for _, s := range everywhere(of(n)) {
				comes(t, api.OK, s)
			}
		}
		comes(t, api.ErrName, plain("(let C 1)", of("C")))
		comes(t, api.ErrName, plain("(state C 1)", of("C")))
		comes(t, api.ErrName, plain("", "(each C p "+of("C")+")"))
	}
	// Other elements have names that stand for no component.
	for _, s := range []string{"(host - C ())", "(portal - C)", "(give - C 1)", "(host - p ())", "(host - it ())", "(portal - B 1)"} {
		for _, text := range everywhere(s) {
			comes(t, api.OK, text)
		}
	}
	// A component is no name that an expression knows.
	comes(t, api.ErrName, shown("B"))
	comes(t, api.ErrName, shown("App"))
	comes(t, api.OK, "(comp B App (let B App) (show (list App B (new - B ((B B))))))\n(comp App B (show B))")
}
