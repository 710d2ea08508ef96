package show_test

import (
	"fmt"
	"slices"
	"strings"
	"testing"

	"tapestry/api"
	"tapestry/show"
	"tapestry/value"
)

// What the tests make values and nodes by.

func none() api.Value                 { return api.Value{} }
func number(n int64) api.Value        { return api.Value{Kind: api.Int, N: n} }
func truth(n int64) api.Value         { return api.Value{Kind: api.Bool, N: n} }
func words(s string) api.Value        { return api.Value{Kind: api.Text, S: s} }
func list(l ...api.Value) api.Value   { return api.Value{Kind: api.List, L: l} }
func record(l ...api.Field) api.Value { return api.Value{Kind: api.Record, F: l} }
func deed(l ...api.Field) api.Value   { return api.Value{Kind: api.Deed, N: 7, S: "App#0", F: l} }
func element(l ...api.Field) api.Value {
	return api.Value{Kind: api.Elem, Elem: api.ElHost, S: "p", F: l}
}
func leaf(s string) api.Node                { return api.Node{Text: s} }
func nodes(l ...api.Node) []api.Node        { return l }
func fields(l ...api.Field) []api.Field     { return l }
func long(n int) string                     { return strings.Repeat("x", n) }
func field(s string, v api.Value) api.Field { return api.Field{Name: s, Value: v} }

func host(tag string, kids ...api.Node) api.Node { return api.Node{Tag: tag, Kids: kids} }

// with is a host with these attributes.
func with(n api.Node, l ...api.Field) api.Node {
	n.Attrs = l
	return n
}

// numbered is the node with that number, and all within it with the next ones.
func numbered(n api.Node, id int) api.Node {
	n.ID = id
	n.Kids = slices.Clone(n.Kids)
	for i := range n.Kids {
		n.Kids[i] = numbered(n.Kids[i], id+i+1)
	}
	return n
}

// nest lays a node within n hosts, beside others.
func nest(n api.Node, deep int) api.Node {
	for range deep {
		n = host("q", leaf("a"), n, host("r"))
	}
	return n
}

// ways are lists in which a node stands: by itself, beside others, and deep.
func ways(n api.Node) map[string][]api.Node {
	return map[string][]api.Node{
		"alone":                 nodes(n),
		"the first one":         nodes(n, leaf("x"), host("p")),
		"in the midst":          nodes(host("p"), n, leaf("x")),
		"the last one":          nodes(leaf("x"), host("p"), n),
		"within a host":         nodes(host("p", n)),
		"the last one in one":   nodes(host("p", leaf("x"), host("q"), n), leaf("y")),
		"deep":                  nodes(nest(n, 3)),
		"deep, behind another":  nodes(nest(leaf("x"), 9), nest(n, 20)),
		"twice":                 nodes(n, n),
		"within itself, so far": nodes(host("p", n, host("q", n)), n),
	}
}

func sameNode(a, b api.Node) bool {
	return a.ID == b.ID && a.Tag == b.Tag && a.Text == b.Text && sameFields(a.Attrs, b.Attrs) && sameNodes(a.Kids, b.Kids)
}

func sameNodes(a, b []api.Node) bool { return slices.EqualFunc(a, b, sameNode) }

func sameFields(a, b []api.Field) bool {
	return slices.EqualFunc(a, b, func(x, y api.Field) bool { return x.Name == y.Name && value.Same(x.Value, y.Value) })
}

// short is the beginning of what fmt tells of it.
func short(v any) string { return fmt.Sprintf("%.300s", fmt.Sprint(v)) }

// unnumbered is the test's own way to take numbers away.
func unnumbered(l []api.Node) []api.Node {
	l = slices.Clone(l)
	for i := range l {
		l[i].ID, l[i].Kids = 0, unnumbered(l[i].Kids)
	}
	return l
}

// tells: is that the text of the nodes, and leads it back? The second reading has to say so, too.
func tells(t *testing.T, l []api.Node, want string) {
	t.Helper()
	if s, ok := readingOf(l); !ok || s != want {
		t.Errorf("%s: the test's own reading is %.200q, %v, want %.200q", short(l), s, ok, want)
	}
	if s := show.Text(l); s != want {
		t.Errorf("%s: %.200q, want %.200q", short(l), s, want)
	}
	reads(t, want, l)
}

// tellsNone: may the nodes not be?
func tellsNone(t *testing.T, why string, l []api.Node) {
	t.Helper()
	if s, ok := readingOf(l); ok {
		t.Errorf("%s: the test's own reading is %.200q", why, s)
	}
	if s := show.Text(l); s != "" {
		t.Errorf("%s: %.200q, want none", why, s)
	}
}

// reads: are these, but for their numbers, the nodes of the text?
func reads(t *testing.T, s string, want []api.Node) {
	t.Helper()
	if got, errno := show.Read(s); errno != api.OK || !sameNodes(got, unnumbered(want)) {
		t.Errorf("%.200q: %s, error %d, want %s", s, short(got), errno, short(want))
	}
	if !isReading(s) {
		t.Errorf("%.200q: the test's own reading has no nodes of it", s)
	}
}

// readsNone: is the text that of no nodes?
func readsNone(t *testing.T, s string) {
	t.Helper()
	if isReading(s) {
		t.Errorf("%.200q: the test's own reading has nodes of it", s)
	}
	held(t, s)
}

// held: is the text read as the second reading says? Whether it is one of nodes.
func held(t *testing.T, s string) bool {
	t.Helper()
	got, errno := show.Read(s)
	if !isReading(s) {
		if errno != api.ErrSyntax || len(got) > 0 {
			t.Errorf("%.200q: %s, error %d, want ErrSyntax", s, short(got), errno)
		}
		return false
	}
	told, ok := readingOf(got)
	if errno != api.OK || !ok || told != s || show.Text(got) != s || !sameNodes(got, unnumbered(got)) {
		t.Errorf("%.200q: %s, error %d, which is %.200q", s, short(got), errno, told)
	}
	return true
}
