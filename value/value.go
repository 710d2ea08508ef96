// Package value is layer 1: values of programs. See doc/01-value.md.
package value

import "tapestry/api"

// Same: are two the same? (P1.2)
func Same(a, b api.Value) bool {
	var same func(a, b *api.Value) bool
	same = func(a, b *api.Value) bool {
		if !sameOwn(a, b) || len(a.L) != len(b.L) || len(a.F) != len(b.F) {
			return false
		}
		for i := range a.L {
			if !same(&a.L[i], &b.L[i]) {
				return false
			}
		}
		for i := range a.F {
			if a.F[i].Name != b.F[i].Name || !same(&a.F[i].Value, &b.F[i].Value) {
				return false
			}
		}
		return true
	}
	return same(&a, &b)
}

// sameOwn: are two the same, what lies within them aside?
func sameOwn(a, b *api.Value) bool {
	return a.Kind == b.Kind && a.N == b.N && a.S == b.S &&
		a.Elem == b.Elem && a.Key == b.Key && a.HasKey == b.HasKey
}

// Shallow: are two records the same, field by field? (P1.2)
func Shallow(a, b api.Value) bool {
	if a.Kind != api.Record || b.Kind != api.Record {
		return false
	}
	// Whatever else they hold does not count, so it is left behind.
	return Same(api.Value{F: a.F}, api.Value{F: b.F})
}

// Size: how many parts it has; Deep: how deep they lie. (P1.4)
func Size(v api.Value) int {
	var size func(v *api.Value) int
	size = func(v *api.Value) int {
		n := 1
		for i := range v.L {
			n += size(&v.L[i])
		}
		for i := range v.F {
			n += size(&v.F[i].Value)
		}
		return n
	}
	return size(&v)
}

// Deep: likewise.
func Deep(v api.Value) int {
	var deep func(v *api.Value) int
	deep = func(v *api.Value) int {
		most := 0
		for i := range v.L {
			most = max(most, deep(&v.L[i]))
		}
		for i := range v.F {
			most = max(most, deep(&v.F[i].Value))
		}
		return most + 1
	}
	return deep(&v)
}
