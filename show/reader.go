package show

import (
	"strconv"
	"strings"

	"tapestry/api"
)

// reader goes through a text of nodes, and leaves by a panic where it can be none. It takes more than such texts: whether one is told just so is asked of the nodes.
type reader struct{ rest string }

// is: does the rest begin with that? If so, it is taken.
func (r *reader) is(s string) bool {
	rest, ok := strings.CutPrefix(r.rest, s)
	r.rest = rest
	return ok
}

func (r *reader) take(s string) {
	if !r.is(s) {
		panic(none{})
	}
}

// nodes takes those that stand beside one another, and tells each.
func (r *reader) nodes(tell func(n api.Node)) {
	for r.rest != "" && !strings.HasPrefix(r.rest, "]") {
		r.is(" ")
		tell(r.node())
	}
}

func (r *reader) node() api.Node {
	if !r.is("(") {
		return api.Node{Text: r.quoted()}
	}
	n := api.Node{Tag: r.quoted()}
	r.take(" {")
	n.Attrs = r.attrs()
	r.take("} [")
	r.nodes(func(kid api.Node) { n.Kids = append(n.Kids, kid) })
	r.take("])")
	return n
}

func (r *reader) attrs() []api.Field {
	var l []api.Field
	for !strings.HasPrefix(r.rest, "}") {
		r.is(" ")
		name := r.quoted()
		r.take(" ")
		l = append(l, api.Field{Name: name, Value: r.value()})
	}
	return l
}

// value takes one of an attribute.
func (r *reader) value() api.Value {
	switch {
	case strings.HasPrefix(r.rest, `"`):
		return api.Value{Kind: api.Text, S: r.quoted()}
	case r.is("yes"):
		return api.Value{Kind: api.Bool, N: 1}
	case r.is("no"):
		return api.Value{Kind: api.Bool}
	}
	return api.Value{Kind: api.Int, N: r.number()}
}

func (r *reader) number() int64 {
	behind := strings.TrimLeft(r.rest, "-0123456789")
	n, err := strconv.ParseInt(r.rest[:len(r.rest)-len(behind)], 10, 64)
	if err != nil {
		panic(none{})
	}
	r.rest = behind
	return n
}

// quoted takes a text in quotes.
func (r *reader) quoted() string {
	r.take(`"`)
	var s strings.Builder
	for !r.is(`"`) {
		s.WriteByte(r.one())
	}
	return s.String()
}

// one takes what stands for one byte within quotes.
func (r *reader) one() byte {
	switch {
	case r.is(`\"`):
		return '"'
	case r.is(`\\`):
		return '\\'
	case r.is(`\n`):
		return '\n'
	case r.rest == "":
		panic(none{})
	}
	b := r.rest[0]
	r.rest = r.rest[1:]
	return b
}
