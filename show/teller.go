package show

import (
	"strings"

	"tapestry/api"
	"tapestry/value"
)

// teller gathers the text of nodes that may be.
type teller struct{ strings.Builder }

func (t *teller) nodes(l []api.Node) {
	for i := range l {
		t.between(i)
		t.node(&l[i])
	}
}

func (t *teller) node(n *api.Node) {
	if n.Tag == "" {
		t.quoted(n.Text)
		return
	}
	t.WriteByte('(')
	t.quoted(n.Tag)
	t.WriteString(" {")
	t.attrs(n.Attrs)
	t.WriteString("} [")
	t.nodes(n.Kids)
	t.WriteString("])")
}

func (t *teller) attrs(l []api.Field) {
	for i := range l {
		t.between(i)
		t.quoted(l[i].Name)
		t.WriteByte(' ')
		t.WriteString(value.Text(l[i].Value))
	}
}

func (t *teller) quoted(s string) {
	t.WriteString(value.Text(api.Value{Kind: api.Text, S: s}))
}

// between keeps what stands at place i from what stands ahead of it.
func (t *teller) between(i int) {
	if i > 0 {
		t.WriteByte(' ')
	}
}
