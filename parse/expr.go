package parse

import "tapestry/api"

func (r *reader) expr() api.Expr {
	return r.exprOf(r.take())
}

// exprOf takes what comes behind the word that an expression begins with.
func (r *reader) exprOf(w api.Word) api.Expr {
	switch w.Kind {
	case api.WInt:
		return api.Expr{Kind: api.ExInt, N: w.N}
	case api.WText:
		return api.Expr{Kind: api.ExText, S: w.S}
	case api.WName:
		return plain(w.S)
	case api.WOpen:
		return r.compound(r.name())
	}
	panic(none{})
}

// plain is the expression that a name alone is.
func plain(name string) api.Expr {
	switch name {
	case "yes":
		return api.Expr{Kind: api.ExBool, N: 1}
	case "no":
		return api.Expr{Kind: api.ExBool}
	case "none":
		return api.Expr{}
	case "-":
		panic(none{})
	}
	return api.Expr{Kind: api.ExName, S: name}
}

// compound takes what comes behind the word that stands first in an expression's parentheses.
func (r *reader) compound(word string) api.Expr {
	switch word {
	case "if":
		return closed(r, api.Expr{Kind: api.ExIf, Args: r.exprs(3)})
	case "each":
		return closed(r, api.Expr{Kind: api.ExEach, S: r.name(), Args: r.exprs(2)})
	case "read":
		return closed(r, api.Expr{Kind: api.ExRead, Args: r.exprs(1)})
	case "throw":
		return closed(r, api.Expr{Kind: api.ExThrow, Args: r.exprs(1)})
	case "rec":
		return paired(api.Expr{Kind: api.ExRec}, all(r, r.pair))
	case "do":
		// The site counts ahead of the deeds that lie within this one.
		return api.Expr{Kind: api.ExDeed, Site: r.site(), Acts: all(r, r.act)}
	case "host":
		return r.elem(api.ElHost)
	case "new":
		return r.elem(api.ElComp)
	case "pure":
		return r.elem(api.ElMemo)
	case "frag":
		return r.elem(api.ElFrag)
	case "portal":
		return r.elem(api.ElPortal)
	case "give":
		return r.elem(api.ElGive)
	case "guard":
		return r.elem(api.ElGuard)
	case "wait":
		return r.elem(api.ElWait)
	}
	return api.Expr{Kind: api.ExOp, S: word, Args: all(r, r.expr)}
}

// elem takes what comes behind the word of an element of that kind.
func (r *reader) elem(k api.ElemKind) api.Expr {
	e := api.Expr{Kind: api.ExElem, Elem: k, Key: r.key()}
	switch k {
	case api.ElHost, api.ElComp, api.ElMemo:
		e.S = r.name()
		e = paired(e, within(r, r.pair))
	case api.ElPortal:
		e.S = r.name()
	case api.ElGive:
		e.S = r.name()
		e = paired(e, r.pairsOf("value"))
	case api.ElGuard:
		e = paired(e, r.pairsOf("again", "else"))
	case api.ElWait:
		e = paired(e, r.pairsOf("else"))
	}
	e.Args = all(r, r.expr)
	return e
}

// key of an element: none or one.
func (r *reader) key() []api.Expr {
	w := r.take()
	if w.Kind == api.WName && w.S == "-" {
		return nil
	}
	return []api.Expr{r.exprOf(w)}
}

// exprs takes n of them.
func (r *reader) exprs(n int) []api.Expr {
	var l []api.Expr
	for range n {
		l = append(l, r.expr())
	}
	return l
}

type pair struct {
	name string
	val  api.Expr
}

func (r *reader) pair() pair {
	r.open()
	return closed(r, pair{r.name(), r.expr()})
}

// pairsOf takes an expression for each of the names, which are not written.
func (r *reader) pairsOf(names ...string) []pair {
	var l []pair
	for _, name := range names {
		l = append(l, pair{name, r.expr()})
	}
	return l
}

// paired is e with these names and values.
func paired(e api.Expr, l []pair) api.Expr {
	for _, p := range l {
		e.Names = append(e.Names, p.name)
		e.Vals = append(e.Vals, p.val)
	}
	return e
}

// closed takes the parenthesis that closes x, all of which has been taken.
func closed[T any](r *reader, x T) T {
	r.shut()
	return x
}
