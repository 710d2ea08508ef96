// Package anew makes things once more, in memory of their own: what layers answer shares none with what they were handed (R4).
package anew

import "tapestry/api"

// Value is the value in memory of its own, each of its lists too.
func Value(v api.Value) api.Value {
	v.L = append([]api.Value(nil), v.L...)
	for i := range v.L {
		v.L[i] = Value(v.L[i])
	}
	v.F = append([]api.Field(nil), v.F...)
	for i := range v.F {
		v.F[i].Value = Value(v.F[i].Value)
	}
	return v
}
