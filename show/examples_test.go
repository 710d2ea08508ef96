package show_test

import (
	"testing"

	"tapestry/api"
	"tapestry/show"
)

// The chapter's examples.
func TestExamples(t *testing.T) {
	div := with(host("div", leaf("hi")), field("id", number(5)))
	tells(t, nodes(div, leaf("x")), `("div" {"id" 5} ["hi"]) "x"`)

	tells(t, nil, "")
	tells(t, nodes(host("p")), `("p" {} [])`)
	tellsNone(t, "the attribute a of none", nodes(with(host("p"), field("a", none()))))
	tellsNone(t, "a text with a node within it", nodes(api.Node{Text: "x", Kids: nodes(leaf("y"))}))

	reads(t, `("p" {} ["a" "b"])`, nodes(host("p", leaf("a"), leaf("b"))))
	reads(t, "", nil)

	for _, s := range []string{`("p" {} ["a"  "b"])`, `("" {} [])`, `("p" {"b" 1 "a" 2} [])`, `5`, `"a" `} {
		readsNone(t, s)
	}

	p := numbered(with(host("p"), field("a", number(1)), field("f", deed())), 7)
	if got := show.Bare(nodes(p)); !sameNodes(got, nodes(with(host("p"), field("a", number(1))))) {
		t.Errorf("Bare: %s", short(got))
	}
}
