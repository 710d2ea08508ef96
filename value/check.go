package value

import "tapestry/api"

// row tells which fields a kind of values has; all its others are zero.
type row struct{ n, s, l, f, elem bool }

// rows stand at the numbers of the kinds.
var rows = [...]row{
	api.None:   {},
	api.Int:    {n: true},
	api.Bool:   {n: true},
	api.Text:   {s: true},
	api.List:   {l: true},
	api.Record: {f: true},
	api.Elem:   {s: true, l: true, f: true, elem: true},
	api.Deed:   {n: true, s: true, f: true},
}

// Check: may it be? (P1.1)
func Check(v api.Value) bool {
	left := api.MaxNodes
	var may func(v *api.Value, deep int) bool
	may = func(v *api.Value, deep int) bool {
		// The limits come first: they end the way through a value that is far too great.
		if left--; left < 0 || deep > api.MaxDeep {
			return false
		}
		if !inRow(v) || !inLimits(v) || !rising(v.F) {
			return false
		}
		for i := range v.L {
			if !may(&v.L[i], deep+1) {
				return false
			}
		}
		for i := range v.F {
			if !may(&v.F[i].Value, deep+1) {
				return false
			}
		}
		return true
	}
	return may(&v, 1)
}

// inRow: has it no fields but those of its kind's row, and those as they are said there?
func inRow(v *api.Value) bool {
	if int(v.Kind) >= len(rows) {
		return false
	}
	r := rows[v.Kind]
	if !r.n && v.N != 0 || !r.s && v.S != "" || !r.l && len(v.L) > 0 || !r.f && len(v.F) > 0 {
		return false
	}
	if !r.elem && (v.Elem != api.ElNone || v.HasKey) || !v.HasKey && v.Key != "" {
		return false
	}
	switch v.Kind {
	case api.Bool:
		return v.N == 0 || v.N == 1
	case api.Elem:
		return isElement(v)
	}
	return true
}

// isElement: are the kind of the element, its S and the names of its F as its row has them?
func isElement(v *api.Value) bool {
	named := v.S != ""
	switch v.Elem {
	case api.ElHost, api.ElComp, api.ElMemo:
		return named
	case api.ElFrag:
		return !named && just(v.F)
	case api.ElPortal:
		return named && just(v.F)
	case api.ElGive:
		return named && just(v.F, "value")
	case api.ElGuard:
		return !named && just(v.F, "again", "else")
	case api.ElWait:
		return !named && just(v.F, "else")
	}
	return false
}

// just: have the fields these names, and no others?
func just(l []api.Field, names ...string) bool {
	if len(l) != len(names) {
		return false
	}
	for i, name := range names {
		if l[i].Name != name {
			return false
		}
	}
	return true
}

// inLimits: is no text of its own too long, the names of fields aside?
func inLimits(v *api.Value) bool {
	return len(v.S) <= api.MaxText && len(v.Key) <= api.MaxText
}

// rising: have the fields names, which rise, no two alike?
func rising(l []api.Field) bool {
	last := "" // no name: the first one has to be greater, too
	for i := range l {
		name := l[i].Name
		if name <= last || len(name) > api.MaxText {
			return false
		}
		last = name
	}
	return true
}
