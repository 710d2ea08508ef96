package check

import (
	"slices"

	"tapestry/api"
	"tapestry/oper"
)

// compsWrong: is there no App, or are there two of one name?
func compsWrong(p api.Program) bool {
	var all []string
	for i := range p {
		all = append(all, p[i].Name)
	}
	return !unlike(all) || !slices.Contains(all, "App")
}

// The following tell of a part, what stands in it aside, whether its names are wrong at a place.

func (at place) stmtWrong(s *api.Stmt) bool {
	return makes(s) && at.known(s.Name)
}

func (at place) actWrong(a *api.Act) bool {
	return a.Kind == api.AcSet && !at.states(a.Name)
}

func (at place) exprWrong(e *api.Expr) bool {
	switch e.Kind {
	case api.ExName:
		return !at.known(e.S)
	case api.ExOp:
		return !takes(e.S, len(e.Args))
	case api.ExRec:
		return !unlike(e.Names)
	case api.ExElem:
		return !unlike(e.Names) || isNew(e) && !at.comps(e.S)
	}
	return false
}

// isNew: is it an element of a component?
func isNew(e *api.Expr) bool {
	return e.Elem == api.ElComp || e.Elem == api.ElMemo
}

// takes: is there an operation of that name that takes n expressions?
func takes(op string, n int) bool {
	switch op {
	case "and", "or":
		return n > 0
	}
	least, most, ok := oper.Takes(op)
	return ok && n >= least && (most < 0 || n <= most)
}
