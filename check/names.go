package check

import (
	"slices"

	"tapestry/api"
)

// names tells of a name whether it is one of some.
type names func(name string) bool

func nothing() names {
	return func(string) bool { return false }
}

// and: these, and that one too. These stay as they are, so that nobody has to take a name back where it ends.
func (n names) and(name string) names {
	return func(s string) bool { return s == name || n(s) }
}

// place is where a part stands.
type place struct {
	deep   int
	known  names
	states names // of its component
	comps  names // of all components
}

func (at place) within() place {
	at.deep++
	return at
}

func (at place) knowing(name string) place {
	at.known = at.known.and(name)
	return at
}

// makes: does a statement make a name? Those that do are those that have one.
func makes(s *api.Stmt) bool { return s.Name != "" }

// statesOf are some names, and the states of statements.
func statesOf(l []api.Stmt, some names) names {
	for i := range l {
		if l[i].Kind == api.StState {
			some = some.and(l[i].Name)
		}
		some = statesOf(l[i].Body, some)
	}
	return some
}

// compsOf are the names of components.
func compsOf(p api.Program) names {
	some := nothing()
	for i := range p {
		some = some.and(p[i].Name)
	}
	return some
}

// unlike: are no two of them the same?
func unlike(l []string) bool {
	rising := slices.Sorted(slices.Values(l))
	return len(slices.Compact(rising)) == len(l)
}
