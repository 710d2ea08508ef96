package print

import (
	"slices"
	"strconv"

	"tapestry/api"
)

func (t *teller) expr(e *api.Expr) bool {
	if fieldsOfExpr(e)&^namedOfExpr(e.Kind) != 0 {
		return false
	}
	switch e.Kind {
	case api.ExNone:
		return t.word("none")
	case api.ExInt:
		return t.word(strconv.FormatInt(e.N, 10))
	case api.ExBool:
		return t.truth(e.N)
	case api.ExText:
		return t.quoted(e.S)
	case api.ExName:
		return t.name(e.S)
	case api.ExElem:
		return t.elem(e)
	}
	return t.compound(e)
}

func (t *teller) truth(n int64) bool {
	switch n {
	case 1:
		return t.word("yes")
	case 0:
		return t.word("no")
	}
	return false
}

// compound tells an expression in brackets that is no element.
func (t *teller) compound(e *api.Expr) bool {
	switch e.Kind {
	case api.ExOp:
		return t.open() && t.op(e.S) && each(e.Args, t.expr) && t.shut()
	case api.ExIf:
		return t.opens("if") && t.exprs(3, e.Args) && t.shut()
	case api.ExEach:
		return t.opens("each") && t.name(e.S) && t.exprs(2, e.Args) && t.shut()
	case api.ExRead:
		return t.opens("read") && t.exprs(1, e.Args) && t.shut()
	case api.ExThrow:
		return t.opens("throw") && t.exprs(1, e.Args) && t.shut()
	case api.ExRec:
		return t.opens("rec") && t.pairs(e) && t.shut()
	case api.ExDeed:
		// The site counts ahead of the deeds that lie within this one.
		return t.site(e.Site) && t.opens("do") && each(e.Acts, t.act) && t.shut()
	}
	return false
}

// exprs tells n of them: no other number is a text's.
func (t *teller) exprs(n int, l []api.Expr) bool {
	return len(l) == n && each(l, t.expr)
}

// pairs tells names and values, each name with its value in brackets of their own.
func (t *teller) pairs(e *api.Expr) bool {
	if len(e.Names) != len(e.Vals) {
		return false
	}
	for i, name := range e.Names {
		if !(t.open() && t.name(name) && t.expr(&e.Vals[i]) && t.shut()) {
			return false
		}
	}
	return true
}

func (t *teller) elem(e *api.Expr) bool {
	if fieldsOfExpr(e)&^namedOfElem(e.Elem) != 0 {
		return false
	}
	switch e.Elem {
	case api.ElHost:
		return t.elemOf("host", t.tagged, e)
	case api.ElComp:
		return t.elemOf("new", t.tagged, e)
	case api.ElMemo:
		return t.elemOf("pure", t.tagged, e)
	case api.ElFrag:
		return t.elemOf("frag", t.bare, e)
	case api.ElPortal:
		return t.elemOf("portal", t.placed, e)
	case api.ElGive:
		return t.elemOf("give", t.gives, e)
	case api.ElGuard:
		return t.elemOf("guard", t.guards, e)
	case api.ElWait:
		return t.elemOf("wait", t.waits, e)
	}
	return false
}

// elemOf tells an element whose word is that; own tells what stands between its key and its children.
func (t *teller) elemOf(word string, own func(*api.Expr) bool, e *api.Expr) bool {
	return t.opens(word) && t.key(e.Key) && own(e) && each(e.Args, t.expr) && t.shut()
}

// key of an element: none or one.
func (t *teller) key(l []api.Expr) bool {
	if len(l) == 0 {
		return t.word("-")
	}
	return t.exprs(1, l)
}

func (t *teller) tagged(e *api.Expr) bool {
	return t.name(e.S) && t.open() && t.pairs(e) && t.shut()
}

func (t *teller) bare(*api.Expr) bool { return true }

func (t *teller) placed(e *api.Expr) bool { return t.name(e.S) }

func (t *teller) gives(e *api.Expr) bool { return t.name(e.S) && t.vals(e, "value") }

func (t *teller) guards(e *api.Expr) bool { return t.vals(e, "again", "else") }

func (t *teller) waits(e *api.Expr) bool { return t.vals(e, "else") }

// vals tells values whose names are not written, as they are just these.
func (t *teller) vals(e *api.Expr, names ...string) bool {
	return slices.Equal(e.Names, names) && t.exprs(len(names), e.Vals)
}
