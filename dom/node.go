package dom

import (
	"slices"
	"strings"

	"tapestry/anew"
	"tapestry/api"
)

// node of a document: what is told of it, but for Kids, and where it stands.
type node struct {
	api.Node
	in            *row // nil: it stands nowhere
	ahead, behind *node
	kids          row
}

// isHost: a text has no tag, which a host has.
func (n *node) isHost() bool { return n.Tag != "" }

// holds: is the other one this very node, or does it stand within it?
func (n *node) holds(other *node) bool {
	// Most nodes come to their row without anything within them, which spares the way up.
	if n.kids.first == nil {
		return other == n
	}
	for other != nil && other != n {
		other = other.host()
	}
	return other == n
}

// host within which it stands right; nil: none.
func (n *node) host() *node {
	if n.in == nil {
		return nil
	}
	return n.in.host
}

// standsIn: does it stand right within the host, or, if that is none, right at the place?
func (n *node) standsIn(host *node, place string) bool {
	return n.in != nil && n.in.host == host && n.in.place == place
}

// find answers where among the attributes the one of that name is, or would be; false: there is none.
func (n *node) find(name string) (int, bool) {
	return slices.BinarySearchFunc(n.Attrs, name, func(f api.Field, name string) int {
		return strings.Compare(f.Name, name)
	})
}

func (n *node) set(name string, v api.Value) {
	at, has := n.find(name)
	if !has {
		n.Attrs = slices.Insert(n.Attrs, at, api.Field{Name: name})
	}
	// It is told of again and again, and its empty lists' spare room is the caller's.
	n.Attrs[at].Value = anew.Value(v)
}

// unset drops an attribute; false: there is none of that name.
func (n *node) unset(name string) bool {
	at, has := n.find(name)
	if has {
		n.Attrs = slices.Delete(n.Attrs, at, at+1)
	}
	return has
}

// tell is the node as it is told of, with all that is within it, in memory of its own.
func (n *node) tell() api.Node {
	told := n.Node
	// The values of attributes have no lists, so that a copy of the fields shares nothing.
	told.Attrs = slices.Clone(n.Attrs)
	told.Kids = n.kids.tell()
	return told
}
