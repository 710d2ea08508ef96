package print_test

import (
	"reflect"
	"strconv"
	"strings"

	"tapestry/api"
	"tapestry/parse"
)

// The grammar's rows once more: words as they stand, and fields by their names. What has no pattern is told as what is no word.

var ofStmt = map[api.StmtKind]string{
	api.StLet:    "( let Name Expr )",
	api.StState:  "( state Name Expr )",
	api.StMemo:   "( memo Name ( Deps ) Expr )",
	api.StUse:    "( use Name Ctx )",
	api.StLayout: "( layout ( Deps ) ( Do ) ( Undo ) )",
	api.StEffect: "( effect ( Deps ) ( Do ) ( Undo ) )",
	api.StWhen:   "( when Expr Body )",
}

var ofAct = map[api.ActKind]string{
	api.AcSet:  "( set Name Expr )",
	api.AcLog:  "( log Expr )",
	api.AcFail: "( fail Expr )",
	api.AcStop: "( stop )",
}

var ofExpr = map[api.ExprKind]string{
	api.ExNone:  "none",
	api.ExInt:   "N",
	api.ExBool:  "TRUTH",
	api.ExText:  "QUOTED",
	api.ExName:  "S",
	api.ExOp:    "( S Args )",
	api.ExIf:    "( if Args )",
	api.ExEach:  "( each S Args )",
	api.ExRead:  "( read Args )",
	api.ExThrow: "( throw Args )",
	api.ExRec:   "( rec PAIRS )",
	api.ExDeed:  "( do Acts )",
}

var ofElem = map[api.ElemKind]string{
	api.ElHost:   "( host KEY S ( PAIRS ) Args )",
	api.ElComp:   "( new KEY S ( PAIRS ) Args )",
	api.ElMemo:   "( pure KEY S ( PAIRS ) Args )",
	api.ElFrag:   "( frag KEY Args )",
	api.ElPortal: "( portal KEY S Args )",
	api.ElGive:   "( give KEY S Vals Args )",
	api.ElGuard:  "( guard KEY Vals Args )",
	api.ElWait:   "( wait KEY Vals Args )",
}

// words of a program's part, or of a list of such; whether it is a text's is not asked.
func words(v any) []string {
	switch x := v.(type) {
	case api.Component:
		return filled("( comp Name Param Body ( show Out ) )", x)
	case api.Stmt:
		return filled(ofStmt[x.Kind], x)
	case api.Act:
		return filled(ofAct[x.Kind], x)
	case api.Expr:
		if x.Kind == api.ExElem {
			return filled(ofElem[x.Elem], x)
		}
		return filled(ofExpr[x.Kind], x)
	case string:
		return []string{x}
	case int64:
		return []string{strconv.FormatInt(x, 10)}
	}
	var all []string
	for i := range reflect.ValueOf(v).Len() {
		all = append(all, words(reflect.ValueOf(v).Index(i).Interface())...)
	}
	return all
}

func filled(pattern string, v any) []string {
	if pattern == "" {
		return []string{","}
	}
	var all []string
	for _, w := range strings.Fields(pattern) {
		e, _ := v.(api.Expr)
		switch w {
		case "TRUTH":
			all = append(all, map[int64]string{0: "no", 1: "yes"}[e.N])
		case "QUOTED":
			all = append(all, quoted(e.S))
		case "KEY":
			if len(e.Key) == 0 {
				all = append(all, "-")
			}
			all = append(all, words(e.Key)...)
		case "PAIRS":
			for i := range min(len(e.Names), len(e.Vals)) {
				all = append(all, "(", e.Names[i])
				all = append(append(all, words(e.Vals[i])...), ")")
			}
		default:
			if w[0] >= 'A' && w[0] <= 'Z' {
				all = append(all, words(reflect.ValueOf(v).FieldByName(w).Interface())...)
			} else {
				all = append(all, w)
			}
		}
	}
	return all
}

func quoted(s string) string {
	return `"` + strings.NewReplacer(`"`, `\"`, `\`, `\\`, "\n", `\n`).Replace(s) + `"`
}

// plainly is a program as text by the patterns alone.
func plainly(p api.Program) string {
	var all strings.Builder
	for _, c := range p {
		last := "("
		for _, w := range words(c) {
			if last != "(" && w != ")" {
				all.WriteByte(' ')
			}
			all.WriteString(w)
			last = w
		}
		all.WriteByte('\n')
	}
	return all.String()
}

// wanted is what Text is to answer of a program whose text is no longer than may be: Parse says which are a text's.
func wanted(p api.Program) (string, api.Errno) {
	s := plainly(p)
	if q, _, errno := parse.Parse(s); errno != api.OK || !samePrograms(p, q) {
		return "", api.ErrArg
	}
	return s, api.OK
}
