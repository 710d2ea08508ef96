package show

import (
	"tapestry/api"
	"tapestry/value"
)

// mayBe: may all of them be?
func mayBe(l []api.Node) bool {
	for i := range l {
		n := &l[i]
		if !isText(n) && !isHost(n) || !mayBe(n.Kids) {
			return false
		}
	}
	return true
}

func isText(n *api.Node) bool {
	return n.Tag == "" && len(n.Text) <= api.MaxText && len(n.Attrs) == 0 && len(n.Kids) == 0
}

// isHost: is it one that may be, what stands within it aside?
func isHost(n *api.Node) bool {
	return isName(n.Tag) && n.Text == "" && areAttrs(n.Attrs)
}

func isName(s string) bool { return s != "" && len(s) <= api.MaxText }

// areAttrs is not asked of them as a record: that has no more than MaxNodes parts, a host as many attributes as it likes.
func areAttrs(l []api.Field) bool {
	for i := range l {
		f := &l[i]
		if !isName(f.Name) || i > 0 && f.Name <= l[i-1].Name || !isPlain(f.Value) {
			return false
		}
	}
	return true
}

// isPlain: is it a value as attributes have them?
func isPlain(v api.Value) bool {
	switch v.Kind {
	case api.Int, api.Bool, api.Text:
		return value.Check(v)
	}
	return false
}
