package dom

import "tapestry/api"

// row is nodes behind one another: those right within a host, or, if that is none, those right at a place.
type row struct {
	host        *node
	place       string
	first, last *node
}

// put lays a node that stands nowhere right ahead of another one of the row; at the end, if that is none.
func (r *row) put(n, behind *node) {
	ahead := r.last
	if behind != nil {
		ahead = behind.ahead
	}
	n.in, n.ahead, n.behind = r, ahead, behind
	r.join(ahead, n)
	r.join(n, behind)
}

// take leaves a node of the row standing nowhere.
func (r *row) take(n *node) {
	r.join(n.ahead, n.behind)
	n.in, n.ahead, n.behind = nil, nil, nil
}

// join makes two nodes follow one another; where one is none, the row begins with, or ends with, the other one.
func (r *row) join(ahead, behind *node) {
	if ahead != nil {
		ahead.behind = behind
	} else {
		r.first = behind
	}
	if behind != nil {
		behind.ahead = ahead
	} else {
		r.last = ahead
	}
}

// tell is the nodes of the row as they are told of; of a row that is not there there are none.
func (r *row) tell() []api.Node {
	if r == nil {
		return nil
	}
	var all []api.Node
	for n := r.first; n != nil; n = n.behind {
		all = append(all, n.tell())
	}
	return all
}
