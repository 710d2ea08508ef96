package oper

import (
	"slices"
	"strings"

	"tapestry/api"
	"tapestry/value"
)

func anInt(n int64) api.Value { return api.Value{Kind: api.Int, N: n} }

func aText(s string) api.Value { return api.Value{Kind: api.Text, S: s} }

func aList(l []api.Value) api.Value { return api.Value{Kind: api.List, L: l} }

func aBool(yes bool) api.Value {
	if yes {
		return api.Value{Kind: api.Bool, N: 1}
	}
	return api.Value{Kind: api.Bool}
}

// are: are they of these kinds, each of its own?
func are(l []api.Value, kinds ...api.Kind) bool {
	for i, k := range kinds {
		if l[i].Kind != k {
			return false
		}
	}
	return true
}

func add(l ...api.Value) (api.Value, bool) {
	return anInt(l[0].N + l[1].N), are(l, api.Int, api.Int)
}

func sub(l ...api.Value) (api.Value, bool) {
	return anInt(l[0].N - l[1].N), are(l, api.Int, api.Int)
}

func mul(l ...api.Value) (api.Value, bool) {
	return anInt(l[0].N * l[1].N), are(l, api.Int, api.Int)
}

func lt(l ...api.Value) (api.Value, bool) {
	if are(l, api.Text, api.Text) {
		return aBool(l[0].S < l[1].S), true
	}
	return aBool(l[0].N < l[1].N), are(l, api.Int, api.Int)
}

func eq(l ...api.Value) (api.Value, bool) {
	return aBool(value.Same(l[0], l[1])), true
}

func not(l ...api.Value) (api.Value, bool) {
	return aBool(l[0].N == 0), are(l, api.Bool)
}

func cat(l ...api.Value) (api.Value, bool) {
	var b strings.Builder
	for i := range l {
		switch l[i].Kind {
		case api.Text:
			b.WriteString(l[i].S)
		case api.Int:
			b.WriteString(value.Text(l[i]))
		default:
			return api.Value{}, false
		}
		// What comes behind makes it no shorter, so that it need not be gathered.
		if b.Len() > api.MaxText {
			return api.Value{}, false
		}
	}
	return aText(b.String()), true
}

func length(l ...api.Value) (api.Value, bool) {
	if are(l, api.Text) {
		return anInt(int64(len(l[0].S))), true
	}
	return anInt(int64(len(l[0].L))), are(l, api.List)
}

func at(l ...api.Value) (api.Value, bool) {
	if !are(l, api.List, api.Int) {
		return api.Value{}, false
	}
	all, place := l[0].L, l[1].N
	if place < 0 || place >= int64(len(all)) {
		return api.Value{}, true
	}
	return all[place], true
}

func get(l ...api.Value) (api.Value, bool) {
	if !are(l, api.Record, api.Text) {
		return api.Value{}, false
	}
	for _, f := range l[0].F {
		if f.Name == l[1].S {
			return f.Value, true
		}
	}
	return api.Value{}, true
}

func list(l ...api.Value) (api.Value, bool) {
	return aList(l), true
}

func push(l ...api.Value) (api.Value, bool) {
	return aList(slices.Concat(l[0].L, l[1:])), are(l, api.List)
}

func text(l ...api.Value) (api.Value, bool) {
	if are(l, api.Text) {
		return l[0], true
	}
	return aText(value.Text(l[0])), !hasDeed(l[0])
}

// hasDeed: is a part of it a Deed?
func hasDeed(v api.Value) bool {
	return v.Kind == api.Deed || slices.ContainsFunc(v.L, hasDeed) ||
		slices.ContainsFunc(v.F, func(f api.Field) bool { return hasDeed(f.Value) })
}
