package show_test

import (
	"testing"

	"tapestry/api"
	"tapestry/dom"
	"tapestry/show"
)

// someNodes are single ones that may be, each unlike all others but for its number.
func someNodes() []api.Node {
	var l []api.Node
	for _, s := range []string{"", "a", "b", " ", `"`, "\n", `\n`, `a" "b`, `("p" {} [])`, "5", "yes"} {
		l = append(l, leaf(s))
		if s != "" {
			l = append(l, host(s), host(s, leaf(s)), host("p", leaf("a"), host(s)), with(host("q"), field(s, number(1))))
		}
		l = append(l, with(host("q"), field("a", words(s))))
	}
	for _, v := range []api.Value{number(0), number(1), number(-1), number(5), number(10), truth(0), truth(1)} {
		l = append(l, with(host("q"), field("c", v)), with(host("q"), field("c", v), field("d", v)), with(host("q", leaf("c")), field("c", v)), with(host("q", with(host("q"), field("c", v)))))
	}
	return append(l, host("q"), host("q", leaf("a"), leaf("a")), host("q", host("q")), host("q", host("q"), host("q")), host("q", host("q", host("q"))))
}

// someLists are of them: none, each one, each two of some.
func someLists() [][]api.Node {
	all := someNodes()
	lists := [][]api.Node{nil}
	for i, n := range all {
		lists = append(lists, nodes(n))
		for j := i % 5; j < len(all); j += 5 {
			lists = append(lists, nodes(n, all[j]))
		}
	}
	return lists
}

// P11.4: Read leads back from Text, but for numbers; Text of what Read tells is the text; Bare of nodes that may be has the same text.
func TestBack(t *testing.T) {
	for i, l := range someLists() {
		s := show.Text(l)
		tells(t, l, s)
		var ones []api.Node
		for _, n := range l {
			ones = append(ones, numbered(n, i))
		}
		tells(t, ones, s)
		bare := show.Bare(ones)
		if show.Text(bare) != s || !sameNodes(bare, unnumbered(l)) {
			t.Errorf("%.200q: bare %s", s, short(bare))
		}
		if got, errno := show.Read(s); errno != api.OK || !sameNodes(got, bare) {
			t.Errorf("%.200q: %s, error %d, want what Bare tells, %s", s, short(got), errno, short(bare))
		}
		isBare(t, ones, bare)
	}
}

// P11.4: two lists of nodes that may be have one text just if they are the same but for numbers.
func TestOneTextEach(t *testing.T) {
	lists := someLists()
	texts := map[string]int{}
	for i, l := range lists {
		s := show.Text(l)
		if j, ok := texts[s]; ok && !sameNodes(lists[j], l) {
			t.Errorf("%.200q: %s, and %s", s, short(lists[j]), short(l))
		}
		texts[s] = i
	}
	for i, l := range lists {
		if j := texts[show.Text(l)]; !sameNodes(lists[j], l) {
			t.Errorf("%s and %s have one text", short(l), short(lists[j]))
		}
		for j := i % 97; j < len(lists); j += 97 {
			if (show.Text(l) == show.Text(lists[j])) != sameNodes(l, lists[j]) {
				t.Errorf("%s and %s: %q and %q", short(l), short(lists[j]), show.Text(l), show.Text(lists[j]))
			}
		}
	}
	if len(texts) < 1000 {
		t.Errorf("%d texts", len(texts))
	}
}

// P11.4: what Bare tells of nodes with deeds, which have no text, has one if all else may be.
func TestTextOfBare(t *testing.T) {
	for _, n := range someNodes() {
		for why, l := range ways(n) {
			want := show.Text(l)
			// Each host gets a deed ahead of its attributes.
			full := withDeeds(l)
			if s := show.Text(full); s != "" && want != s {
				t.Errorf("%s %s: %.200q", short(n), why, s)
			}
			if s := show.Text(show.Bare(full)); s != want {
				t.Errorf("%s %s: %.200q, want %.200q", short(n), why, s, want)
			}
			isBare(t, full, unnumbered(l))
		}
	}
}

func withDeeds(l []api.Node) []api.Node {
	var all []api.Node
	for _, n := range l {
		n.ID = 3
		if n.Tag != "" {
			n.Attrs = append(fields(field("\x00", deed())), n.Attrs...)
		}
		n.Kids = withDeeds(n.Kids)
		all = append(all, n)
	}
	return all
}

// numbersOf is a row of numbers that looks like one without any rule, the same one each time.
func numbersOf(seed int) func(n int) int {
	x := uint32(seed)*2654435761 + 1
	return func(n int) int {
		x = x*1664525 + 1013904223
		return int(x>>8) % n
	}
}

// grown are nodes of some depth, of all kinds.
func grown(next func(n int) int, deep int) []api.Node {
	texts := []string{"", "a", "b", "ab", " ", `"`, `\`, "\n", "]", "])", "(", "{", "5", "\xff", "é"}
	var l []api.Node
	for range next(4) {
		s := texts[next(len(texts))]
		if s == "" || deep == 0 || next(3) == 0 {
			l = append(l, api.Node{ID: next(100) - 50, Text: s})
			continue
		}
		n := api.Node{ID: next(100) - 50, Tag: s, Kids: grown(next, deep-1)}
		name := ""
		for range next(4) {
			name += texts[1+next(len(texts)-1)]
			v := []api.Value{number(int64(next(1000) - 500)), truth(int64(next(2))), words(texts[next(len(texts))])}[next(3)]
			n.Attrs = append(n.Attrs, field(name, v))
		}
		l = append(l, n)
	}
	return l
}

// P11.4: many trees of nodes, in and out.
func TestManyTrees(t *testing.T) {
	most := 0
	for seed := range 2000 {
		next := numbersOf(seed)
		l := grown(next, 5)
		s, ok := readingOf(l)
		if !ok {
			t.Fatalf("%s may not be", short(l))
		}
		tells(t, l, s)
		isBare(t, l, unnumbered(l))
		most = max(most, len(s))
		// Two bytes of its text are other ones.
		if len(s) > 0 {
			b := []byte(s)
			for range 2 {
				b[next(len(b))] = s[next(len(s))]
			}
			held(t, string(b))
		}
	}
	if most < 1000 {
		t.Errorf("the longest text has %d bytes", most)
	}
}

// P11.4: documents have the same text if they are the same but for numbers; what is read of it is what Bare tells.
func TestDocuments(t *testing.T) {
	var texts []string
	for _, from := range []int{1, 100} {
		d := dom.New()
		for _, o := range []api.Op{
			{Kind: api.OpCreate, Node: from, Name: "div"}, {Kind: api.OpText, Node: from + 1, Value: words("hi")}, {Kind: api.OpCreate, Node: from + 2, Name: "p"},
			{Kind: api.OpInsert, Node: from}, {Kind: api.OpInsert, Node: from + 1, Parent: from}, {Kind: api.OpInsert, Node: from + 2, Parent: from, Before: from + 1},
			{Kind: api.OpAttr, Node: from, Name: "id", Value: number(5)}, {Kind: api.OpAttr, Node: from, Name: "hidden", Value: truth(1)}, {Kind: api.OpAttr, Node: from + 2, Name: "x", Value: words("a\"b")},
			{Kind: api.OpText, Node: from + 3, Value: words("")}, {Kind: api.OpInsert, Node: from + 3},
		} {
			if errno := d.Do(o); errno != api.OK {
				t.Fatalf("%v: %d", o, errno)
			}
		}
		l := d.Nodes("")
		tells(t, l, `("div" {"hidden" yes "id" 5} [("p" {"x" "a\"b"} []) "hi"]) ""`)
		texts = append(texts, show.Text(l))
		if got, _ := show.Read(show.Text(l)); !sameNodes(got, show.Bare(l)) {
			t.Errorf("%s, want %s", short(got), short(show.Bare(l)))
		}
		tells(t, d.Nodes("none"), "")
	}
	if texts[0] != texts[1] {
		t.Errorf("%q, %q", texts[0], texts[1])
	}
}
