package check_test

import (
	"slices"

	"tapestry/api"
	"tapestry/lex"
	"tapestry/print"
)

// The chapter's words once more, read from a program's text: words, and what stands in brackets.

// node is a word, or what stands in brackets.
type node struct {
	word api.Word
	list []node
}

func nodesOf(words []api.Word) (l []node, rest []api.Word) {
	for len(words) > 0 {
		w := words[0]
		words = words[1:]
		switch w.Kind {
		case api.WClose:
			return l, words
		case api.WOpen:
			var in []node
			in, words = nodesOf(words)
			l = append(l, node{word: w, list: in})
		default:
			l = append(l, node{word: w})
		}
	}
	return l, nil
}

func (n node) is(word string) bool { return n.word.Kind == api.WName && n.word.S == word }

// reading counts the parts, and gathers what is wrong with names.
type reading struct {
	parts, deepest int
	wrong          bool
	comps, states  []string
}

// read is what Check is to answer.
func read(p api.Program) api.Errno {
	s, errno := print.Text(p)
	if errno != api.OK {
		return errno
	}
	words, _, _ := lex.Words(s)
	l, _ := nodesOf(words)
	r := &reading{}
	for _, c := range l {
		name := c.list[1].word.S
		r.wrong = r.wrong || slices.Contains(r.comps, name)
		r.comps = append(r.comps, name)
	}
	r.wrong = r.wrong || !slices.Contains(r.comps, "App")
	for _, c := range l {
		r.states = nil
		r.gatherStates(c.list)
		r.part(1)
		known := []string{c.list[2].word.S}
		for _, s := range c.list[3:] {
			if s.list[0].is("show") {
				r.exprs(s.list[1:], 2, known)
			} else {
				known = r.stmt(s.list, 2, known)
			}
		}
	}
	switch {
	case r.parts > api.MaxNodes || r.deepest > api.MaxDeep:
		return api.ErrLimit
	case r.wrong:
		return api.ErrName
	}
	return api.OK
}

// gatherStates takes statements alone: an expression of such words is within one.
func (r *reading) gatherStates(l []node) {
	for _, s := range l {
		if len(s.list) == 0 {
			continue
		}
		switch {
		case s.list[0].is("state"):
			r.states = append(r.states, s.list[1].word.S)
		case s.list[0].is("when"):
			r.gatherStates(s.list[2:])
		}
	}
}

func (r *reading) part(deep int) {
	r.parts++
	r.deepest = max(r.deepest, deep)
}

func plus(known []string, more string) []string {
	return append(slices.Clone(known), more)
}

// stmt answers the names that are known behind it.
func (r *reading) stmt(l []node, deep int, known []string) []string {
	r.part(deep)
	switch head := l[0]; {
	case head.is("let"), head.is("state"):
		r.exprs(l[2:], deep+1, known)
	case head.is("memo"):
		r.exprs(l[2].list, deep+1, known)
		r.exprs(l[3:], deep+1, known)
	case head.is("use"):
	case head.is("layout"), head.is("effect"):
		r.exprs(l[1].list, deep+1, known)
		r.acts(l[2].list, deep+1, known)
		r.acts(l[3].list, deep+1, known)
		return known
	case head.is("when"):
		r.exprs(l[1:2], deep+1, known)
		for _, s := range l[2:] {
			known = r.stmt(s.list, deep+1, known)
		}
		return known
	}
	name := l[1].word.S
	r.wrong = r.wrong || slices.Contains(known, name)
	return plus(known, name)
}

func (r *reading) acts(l []node, deep int, known []string) {
	for _, a := range l {
		r.part(deep)
		switch head := a.list[0]; {
		case head.is("set"):
			r.wrong = r.wrong || !slices.Contains(r.states, a.list[1].word.S)
			r.exprs(a.list[2:], deep+1, plus(known, "it"))
		default:
			r.exprs(a.list[1:], deep+1, plus(known, "it"))
		}
	}
}

func (r *reading) exprs(l []node, deep int, known []string) {
	for _, e := range l {
		r.part(deep)
		switch {
		case e.word.Kind == api.WOpen:
			r.within(e.list, deep+1, known)
		case e.word.Kind == api.WName && !e.is("yes") && !e.is("no") && !e.is("none"):
			r.wrong = r.wrong || !slices.Contains(known, e.word.S)
		}
	}
}

func (r *reading) within(l []node, deep int, known []string) {
	switch l[0].word.S {
	case "if", "read", "throw":
		r.exprs(l[1:], deep, known)
	case "each":
		r.exprs(l[2:3], deep, known)
		r.exprs(l[3:], deep, plus(known, l[1].word.S))
	case "rec":
		r.pairs(l[1:], deep, known)
	case "do":
		r.acts(l[1:], deep, known)
	case "host", "new", "pure":
		r.key(l[1], deep, known)
		r.pairs(l[3].list, deep, known)
		r.exprs(l[4:], deep, known)
		r.wrong = r.wrong || l[0].word.S != "host" && !slices.Contains(r.comps, l[2].word.S)
	case "portal", "give":
		r.key(l[1], deep, known)
		r.exprs(l[3:], deep, known)
	case "frag", "guard", "wait":
		r.key(l[1], deep, known)
		r.exprs(l[2:], deep, known)
	default:
		r.exprs(l[1:], deep, known)
		r.op(l[0].word.S, len(l)-1)
	}
}

func (r *reading) key(n node, deep int, known []string) {
	if !n.is("-") {
		r.exprs([]node{n}, deep, known)
	}
}

func (r *reading) pairs(l []node, deep int, known []string) {
	var names []string
	for _, pair := range l {
		name := pair.list[0].word.S
		r.wrong = r.wrong || slices.Contains(names, name)
		names = append(names, name)
		r.exprs(pair.list[1:], deep, known)
	}
}

func (r *reading) op(name string, n int) {
	switch name {
	case "add", "sub", "mul", "lt", "eq", "at", "get", "push":
		r.wrong = r.wrong || n != 2
	case "not", "len", "text":
		r.wrong = r.wrong || n != 1
	case "and", "or":
		r.wrong = r.wrong || n == 0
	case "cat", "list":
	default:
		r.wrong = true
	}
}
