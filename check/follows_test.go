package check_test

import (
	"reflect"
	"slices"
	"strings"
	"testing"

	"tapestry/api"
	"tapestry/check"
)

// some are programs of more than one component, that may be and that may not.
func some() []string {
	return append(rich(),
		comp("App", "(new - C ())")+comp("B", "none")+comp("C", "(pure - B ())"),
		comp("D", "(new - D ())")+comp("B", "(new - D ())")+comp("App", "none")+comp("C", "x"),
		comp("D", "none")+comp("B", "none")+comp("C", "none"),
		comp("B", "none")+comp("App", "none")+comp("B", "none"),
		comp("B", "(foo)")+comp("App", "(new - C ())")+comp("C", "(read 1)"),
		comp("App", "(new - B ())")+comp("B", deepOf("1", api.MaxDeep-3))+comp("C", deepOf("1", api.MaxDeep-2)),
		comp("App", "(new - X ())")+comp("B", "none")+comp("C", deepOf("1", api.MaxDeep)),
		comp("B", "none")+comp("App", "(list"+strings.Repeat(" 1", 2040)+")")+comp("C", "(list"+strings.Repeat(" 1", 2048)+")"),
		comp("B", "none")+comp("App", "(list"+strings.Repeat(" 1", 2040)+")")+comp("C", "(list"+strings.Repeat(" 1", 2049)+")"),
	)
}

// turned are all orders of some things.
func turned[T any](l []T) [][]T {
	if len(l) == 0 {
		return [][]T{nil}
	}
	var all [][]T
	for i := range l {
		for _, rest := range turned(append(slices.Clone(l[:i]), l[i+1:]...)) {
			all = append(all, append([]T{l[i]}, rest...))
		}
	}
	return all
}

// P6.2: in which order components stand makes no difference.
func TestTurned(t *testing.T) {
	for _, s := range some() {
		for _, with := range []string{"", "(comp T p (show none))", "(comp T p (show no-name))", "(comp T p (show (new - App ())))", "(comp App p (show none))"} {
			p := of(t, s+with)
			want := check.Check(p)
			for _, q := range turned(p) {
				comesOf(t, want, q, "%.200s, turned round", s)
			}
			p[0].Param = "no"
			for _, q := range turned(p) {
				comesOf(t, api.ErrArg, q, "%.200s, turned round, with the param no", s)
			}
		}
	}
}

// named: does an element of the program have the name of this component?
func named(p api.Program, name string) bool {
	is := false
	eachExpr(p, func(e *api.Expr) {
		is = is || e.Kind == api.ExElem && (e.Elem == api.ElComp || e.Elem == api.ElMemo) && e.S == name
	})
	return is
}

// P6.2: a component taken away that no element names, and one that an element names.
func TestTakenAway(t *testing.T) {
	with, without := 0, 0
	for _, s := range some() {
		for _, more := range []string{"", "(comp T p (show none))", "(comp T p (show (new - App ())))(comp U p (show (pure - T ())))"} {
			p := of(t, s+more)
			if check.Check(p) != api.OK {
				continue
			}
			for i := range p {
				q := append(slices.Clone(p[:i]), p[i+1:]...)
				name := p[i].Name
				switch {
				case name == "App":
					comesOf(t, api.ErrName, q, "%.200s without App", s)
				case named(q, name):
					with++
					comesOf(t, api.ErrName, q, "%.200s without %s, which an element names", s, name)
				case !named(p, name):
					without++
					comesOf(t, api.OK, q, "%.200s without %s", s, name)
				}
			}
		}
	}
	if with < 5 || without < 20 {
		t.Errorf("%d components that are named, %d that are not", with, without)
	}
}

// bodies are where statements stand in a program: lists that can be set.
func bodies(p api.Program) []reflect.Value {
	var all []reflect.Value
	places(reflect.ValueOf(&p).Elem(), func(v reflect.Value) {
		switch x := v.Interface().(type) {
		case api.Component:
			all = append(all, v.FieldByName("Body"))
		case api.Stmt:
			if x.Kind == api.StWhen {
				all = append(all, v.FieldByName("Body"))
			}
		}
	})
	return all
}

// inserted is a list with a statement more, at that place.
func inserted(body reflect.Value, at int, s api.Stmt) reflect.Value {
	l := body.Interface().([]api.Stmt)
	return reflect.ValueOf(slices.Insert(slices.Clone(l), at, s))
}

// P6.2: a let of a name that stands nowhere, in each place, changes nothing; the same let once more is one too many, if it is in that component.
func TestLetMore(t *testing.T) {
	full := 0
	for _, s := range some() {
		p := of(t, s)
		want := check.Check(p)
		if want == api.ErrLimit {
			continue
		}
		for _, e := range []api.Expr{{}, {Kind: api.ExInt, N: 5}, {Kind: api.ExOp, S: "list"}, {Kind: api.ExElem, Elem: api.ElComp, S: p[0].Name}} {
			fresh := api.Stmt{Kind: api.StLet, Name: "fresh", Expr: e}
			for i, body := range bodies(p) {
				was := reflect.ValueOf(body.Interface())
				for at := range body.Len() + 1 {
					body.Set(inserted(was, at, fresh))
					now := want
					if read(p) == api.ErrLimit {
						now = api.ErrLimit // there is no room for it
						full++
					}
					comesOf(t, now, p, "%.200s with a let at %d of the list %d", s, at, i)
				}
				body.Set(was)
			}
		}
		comesOf(t, want, p, "%.200s, as it was", s)
	}
	if full > 30 {
		t.Errorf("%d times there was no room", full)
	}
}

// P6.2: the same let twice, in each two places of one component; in each two of two components.
func TestLetTwice(t *testing.T) {
	fresh := api.Stmt{Kind: api.StLet, Name: "fresh"}
	for _, s := range rich() {
		p := of(t, s)
		if check.Check(p) != api.OK {
			continue
		}
		for c := range p {
			for d := range p {
				want := truly(c != d)
				first := bodies(p[c : c+1])
				for i := range first {
					body := first[i]
					was := reflect.ValueOf(body.Interface())
					for at := range body.Len() + 1 {
						body.Set(inserted(was, at, fresh))
						for j, other := range bodies(p[d : d+1]) {
							then := reflect.ValueOf(other.Interface())
							for behind := range other.Len() + 1 {
								other.Set(inserted(then, behind, fresh))
								comesOf(t, want, p, "%.200s with lets at %d of the list %d and at %d of the list %d", s, at, i, behind, j)
							}
							other.Set(then)
						}
					}
					body.Set(was)
				}
			}
		}
		comesOf(t, api.OK, p, "%.200s, as it was", s)
	}
}

// P6.2: one statement more may be one too many for the limits.
func TestLetBeyond(t *testing.T) {
	full := "(list" + strings.Repeat(" 1", api.MaxNodes-4) + ")"
	comes(t, api.OK, plain("(let fresh 1)", full))
	comes(t, api.ErrName, plain("(let fresh x)", full))
	comes(t, api.ErrLimit, plain("(let fresh 1) (let other 1)", full))
	comes(t, api.ErrLimit, plain("(let fresh 1) (let other x)", full))
	comes(t, api.ErrLimit, plain("(let fresh 1) (let fresh 1)", full))
	whens := func(s string, n int) string {
		return plain(strings.Repeat("(when p ", n)+s+strings.Repeat(")", n), "none")
	}
	comes(t, api.OK, whens("", api.MaxDeep-2))
	comes(t, api.OK, whens("(let fresh 1)", api.MaxDeep-3))
	comes(t, api.ErrLimit, whens("(let fresh 1)", api.MaxDeep-2))
	comes(t, api.OK, whens("(use fresh c)", api.MaxDeep-2))
	comes(t, api.ErrName, whens("(use p c)", api.MaxDeep-2))
	comes(t, api.ErrLimit, whens("(use p c)", api.MaxDeep-1))
}
