package print

import "tapestry/api"

// fields of a statement, an act or an expression, the kind aside: a bit each.
type fields uint

const (
	hasName fields = 1 << iota
	hasCtx
	hasExpr
	hasDeps
	hasDo
	hasUndo
	hasBody
	hasN
	hasS
	hasArgs
	hasNames
	hasVals
	hasElem
	hasKey
	hasActs
	hasSite
)

func bit(f fields, has bool) fields {
	if has {
		return f
	}
	return 0
}

// The following tell which fields are not zero.

func fieldsOfStmt(s *api.Stmt) fields {
	return bit(hasName, s.Name != "") | bit(hasCtx, s.Ctx != "") | bit(hasExpr, !isZero(&s.Expr)) |
		bit(hasDeps, len(s.Deps) > 0) | bit(hasDo, len(s.Do) > 0) | bit(hasUndo, len(s.Undo) > 0) |
		bit(hasBody, len(s.Body) > 0)
}

func fieldsOfAct(a *api.Act) fields {
	return bit(hasName, a.Name != "") | bit(hasExpr, !isZero(&a.Expr))
}

func fieldsOfExpr(e *api.Expr) fields {
	return bit(hasN, e.N != 0) | bit(hasS, e.S != "") | bit(hasArgs, len(e.Args) > 0) |
		bit(hasNames, len(e.Names) > 0) | bit(hasVals, len(e.Vals) > 0) | bit(hasElem, e.Elem != api.ElNone) |
		bit(hasKey, len(e.Key) > 0) | bit(hasActs, len(e.Acts) > 0) | bit(hasSite, e.Site != "")
}

func isZero(e *api.Expr) bool {
	return e.Kind == api.ExNone && fieldsOfExpr(e) == 0
}

// The following tell which fields a kind's row names; all others have to be zero. Kinds that have no row name none.

func namedOfStmt(k api.StmtKind) fields {
	switch k {
	case api.StLet, api.StState:
		return hasName | hasExpr
	case api.StMemo:
		return hasName | hasDeps | hasExpr
	case api.StUse:
		return hasName | hasCtx
	case api.StLayout, api.StEffect:
		return hasDeps | hasDo | hasUndo
	case api.StWhen:
		return hasExpr | hasBody
	}
	return 0
}

func namedOfAct(k api.ActKind) fields {
	switch k {
	case api.AcSet:
		return hasName | hasExpr
	case api.AcLog, api.AcFail:
		return hasExpr
	}
	return 0
}

func namedOfExpr(k api.ExprKind) fields {
	switch k {
	case api.ExInt, api.ExBool:
		return hasN
	case api.ExText, api.ExName:
		return hasS
	case api.ExOp, api.ExEach:
		return hasS | hasArgs
	case api.ExIf, api.ExRead, api.ExThrow:
		return hasArgs
	case api.ExRec:
		return hasNames | hasVals
	case api.ExElem:
		return hasElem | hasKey | hasS | hasNames | hasVals | hasArgs
	case api.ExDeed:
		return hasActs | hasSite
	}
	return 0
}

func namedOfElem(k api.ElemKind) fields {
	switch k {
	case api.ElHost, api.ElComp, api.ElMemo, api.ElGive:
		return hasElem | hasKey | hasS | hasNames | hasVals | hasArgs
	case api.ElFrag:
		return hasElem | hasKey | hasArgs
	case api.ElPortal:
		return hasElem | hasKey | hasS | hasArgs
	case api.ElGuard, api.ElWait:
		return hasElem | hasKey | hasNames | hasVals | hasArgs
	}
	return 0
}
