package norm_test

import (
	"fmt"
	"slices"

	"tapestry/api"
)

// A second reading of the chapter: lists are laid flat, what is no child is left out, keys are looked for among those ahead.

func flat(l []api.Value) []api.Value {
	var all []api.Value
	for _, v := range l {
		if v.Kind == api.List {
			all = append(all, flat(v.L)...)
		} else {
			all = append(all, v)
		}
	}
	return all
}

// elements are the kinds of elements that there are.
func elements() []api.ElemKind {
	return []api.ElemKind{api.ElHost, api.ElComp, api.ElMemo, api.ElFrag, api.ElPortal, api.ElGive, api.ElGuard, api.ElWait}
}

func isChild(v api.Value) bool {
	isElement := v.Kind == api.Elem && slices.Contains(elements(), v.Elem)
	return isElement || v.Kind == api.Int || v.Kind == api.Text
}

func reading(l []api.Value) []api.Child {
	var kids []api.Child
	for place, v := range flat(l) {
		if !isChild(v) || len(kids) == 4096 {
			continue
		}
		c := api.Child{Key: fmt.Sprint("i:", place), Kind: api.ElText}
		switch v.Kind {
		case api.Int:
			c.Value = text(fmt.Sprint(v.N))
		case api.Text:
			c.Value = text(v.S)
		default:
			c.Kind, c.Name, c.Value = v.Elem, v.S, v
			own := "k:" + v.Key
			if v.HasKey && !slices.ContainsFunc(kids, func(c api.Child) bool { return c.Key == own }) {
				c.Key = own
			}
		}
		kids = append(kids, c)
	}
	return kids
}
