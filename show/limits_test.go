package show_test

import (
	"strings"
	"testing"

	"tapestry/api"
	"tapestry/show"
	"tapestry/value"
)

// placed is a node with a text that may be too long at one of its places, and the text that it would have.
type placed struct {
	why  string
	n    api.Node
	told string
}

func places(s string) []placed {
	q := quotedBy(s)
	return []placed{
		{"text", leaf(s), q},
		{"tag", host(s), `(` + q + ` {} [])`},
		{"attribute's name", with(host("p"), field(s, number(1))), `("p" {` + q + ` 1} [])`},
		{"a later one's", with(host("p"), field("\x00", number(1)), field(s, number(1))), "(\"p\" {\"\x00\" 1 " + q + ` 1} [])`},
		{"attribute's text", with(host("p"), field("a", words(s))), `("p" {"a" ` + q + `} [])`},
		{"text within a host", host("p", leaf(s), leaf("")), `("p" {} [` + q + ` ""])`},
		{"tag deep within it", host("p", host("q", host(s, leaf("x")))), `("p" {} [("q" {} [(` + q + ` {} ["x"])])])`},
	}
}

// P11.1, P11.2: MaxText bytes are allowed in a text, a tag, an attribute's name and its text, one more is not; what quotes add does not count.
func TestMaxText(t *testing.T) {
	for _, unit := range []string{"x", `"`, `\`, "\n", "\xff", "é"} {
		most := strings.Repeat(unit, api.MaxText/len(unit))
		for _, s := range []string{most[len(unit):], most} {
			for _, c := range places(s) {
				tells(t, nodes(c.n), c.told)
				tells(t, nodes(leaf("x"), c.n, leaf("y")), `"x" `+c.told+` "y"`)
			}
		}
		for _, s := range []string{most + "y", most + unit, most + most} {
			for _, c := range places(s) {
				for way, l := range ways(c.n) {
					tellsNone(t, c.why+" "+way, l)
				}
				readsNone(t, c.told)
				readsNone(t, `("q" {} [`+c.told+`])`)
			}
		}
	}
}

// manyAttrs are n of them, and their text without brackets.
func manyAttrs(n int) ([]api.Field, string) {
	var l []api.Field
	var told []string
	for i := range n {
		name := string([]byte{'a' + byte(i/26/26/26%26), 'a' + byte(i/26/26%26), 'a' + byte(i/26%26), 'a' + byte(i%26)})
		l = append(l, field(name, number(int64(i))))
		told = append(told, quotedBy(name)+" "+value.Text(number(int64(i))))
	}
	return l, strings.Join(told, " ")
}

// P11.1, P11.2: a host has as many attributes as it likes, also more than a value has parts.
func TestManyAttributes(t *testing.T) {
	for _, n := range []int{1, 2, 100, api.MaxNodes - 2, api.MaxNodes - 1, api.MaxNodes, api.MaxNodes + 1, 2 * api.MaxNodes} {
		l, told := manyAttrs(n)
		s := `("p" {` + told + `} ["x"])`
		tells(t, nodes(with(host("p", leaf("x")), l...)), s)
		readsNone(t, `("p" {`+told+` "a" 1} ["x"])`)
		readsNone(t, `("p" {`+told+` } ["x"])`)
		l[n-1].Value = none()
		tellsNone(t, "the last one is none", nodes(with(host("p"), l...)))
		l[n-1] = field("a", number(1))
		if n > 1 {
			tellsNone(t, "the last one does not rise", nodes(with(host("p"), l...)))
		}
	}
}

// P11.1, P11.2: more nodes than a value has parts, and than instances have children.
func TestManyNodes(t *testing.T) {
	const n = api.MaxPass + 1
	var l []api.Node
	var told []string
	for range n {
		l = append(l, leaf("x"), host("p", leaf("")))
		told = append(told, `"x" ("p" {} [""])`)
	}
	s := strings.Join(told, " ")
	tells(t, l, s)
	tells(t, nodes(host("q", l...)), `("q" {} [`+s+`])`)
	readsNone(t, s+" ")
	readsNone(t, `("q" {} [`+s+` ])`)
	readsNone(t, `("q" {} [`+s+`]`)
	l[n] = host("")
	l[n].Kids = nodes(leaf(""))
	tellsNone(t, "one in the midst", l)
	tellsNone(t, "one in the midst", nodes(host("q", l...)))
}

// P11.2: texts far longer than a program's.
func TestLongTexts(t *testing.T) {
	var l []api.Node
	for range 150 {
		l = append(l, leaf(strings.Repeat("\n", api.MaxText)), with(host(long(api.MaxText)), field(long(api.MaxText), words(strings.Repeat(`"`, api.MaxText)))))
	}
	s, _ := readingOf(l)
	if len(s) < 40*api.MaxSource {
		t.Fatal(len(s))
	}
	tells(t, l, s)
	readsNone(t, s+" ")
	readsNone(t, s[:len(s)-1])
	readsNone(t, s[1:])
	for _, unit := range []string{"x", " ", `"`, `" `, "1", "[", "]", "{", "}", "(", ")", `""`, `"" `, `("p" {} [])`, `("p" {} [] `, `("p" {`, "])", `\`, `\"`, "\n"} {
		s := strings.Repeat(unit, 1<<17)
		for _, ahead := range []string{"", `"`, `("p" {} [`, `("p" {"a" `, `("p" {"a" "`, `("p" {"a" 1 `, `("`} {
			if l, errno := show.Read(ahead + s); errno != api.ErrSyntax || len(l) > 0 {
				t.Errorf("%s and %s many times: error %d", ahead, unit, errno)
			}
		}
	}
}

// deepest: how many hosts lie within one another, at the first place of each?
func deepest(l []api.Node) int {
	n := 0
	for len(l) > 0 && l[0].Tag != "" {
		n++
		l = l[0].Kids
	}
	return n
}

// P11.1 to P11.3: nodes within one another, as deep as there are promises.
func TestDeep(t *testing.T) {
	for _, n := range []int{api.MaxDeep - 1, api.MaxDeep, api.MaxDeep + 1, api.MaxDepth + 1, 1000, 1 << 16} {
		open, shut := strings.Repeat(`("p" {} [`, n), strings.Repeat(`])`, n)
		for _, c := range []struct {
			inner string
			ok    bool
		}{{"", true}, {`"x"`, true}, {`("q" {"a" 1} [])`, true}, {" ", false}, {"x", false}, {`("" {} [])`, false}, {`"x" `, false}, {`("q" {"a" 1 "a" 1} [])`, false}, {"[", false}, {"]", false}, {"])", false}, {`("p" {} [`, false}} {
			s := open + c.inner + shut
			l, errno := show.Read(s)
			if !c.ok {
				if errno != api.ErrSyntax || len(l) > 0 {
					t.Errorf("%d, %q: error %d", n, c.inner, errno)
				}
				continue
			}
			if errno != api.OK || deepest(l) < n || show.Text(l) != s {
				t.Errorf("%d, %q: error %d, %d deep", n, c.inner, errno, deepest(l))
			}
			if b := show.Bare(l); !sameNodes(b, l) {
				t.Errorf("%d, %q: Bare is %d deep", n, c.inner, deepest(b))
			}
		}
		for _, s := range []string{open, shut, open + shut[1:], open[1:] + shut, open + shut + " "} {
			if l, errno := show.Read(s); errno != api.ErrSyntax || len(l) > 0 {
				t.Errorf("%d: error %d", n, errno)
			}
		}
		// The one that lies deepest may not be.
		l := nodes(api.Node{Tag: "q", Text: "x"})
		for range n {
			l = nodes(api.Node{ID: 9, Tag: "p", Kids: l})
		}
		if s := show.Text(l); s != "" {
			t.Errorf("%d: %.200q", n, s)
		}
	}
}
