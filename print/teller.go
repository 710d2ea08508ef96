package print

import (
	"strconv"
	"strings"

	"tapestry/api"
	"tapestry/lex"
)

// teller gathers a program's text. What tells a thing answers whether it is a text's; what has been gathered of one that is none does not matter.
type teller struct {
	text   strings.Builder
	long   bool   // it has more bytes than may be: no more of it is kept
	beside bool   // something stands ahead within the same brackets
	comp   string // the component that is told
	deeds  int    // how many `do` of deeds have been told of it
}

func (t *teller) write(s string) {
	t.long = t.long || t.text.Len()+len(s) > api.MaxSource
	if !t.long {
		t.text.WriteString(s)
	}
}

// word tells one, apart from what stands ahead of it.
func (t *teller) word(s string) bool {
	if t.beside {
		t.write(" ")
	}
	t.write(s)
	t.beside = true
	return true
}

func (t *teller) open() bool {
	t.word("(")
	t.beside = false
	return true
}

func (t *teller) shut() bool {
	t.write(")")
	t.beside = true
	return true
}

// opens tells the word that stands first in brackets.
func (t *teller) opens(word string) bool {
	return t.open() && t.word(word)
}

// end ends a line: what comes next stands beside nothing.
func (t *teller) end() bool {
	t.write("\n")
	t.beside = false
	return true
}

// each tells things, each by one.
func each[T any](l []T, one func(*T) bool) bool {
	for i := range l {
		if !one(&l[i]) {
			return false
		}
	}
	return true
}

// within tells things in brackets of their own.
func within[T any](t *teller, l []T, one func(*T) bool) bool {
	return t.open() && each(l, one) && t.shut()
}

func (t *teller) name(s string) bool {
	return isName(s) && t.word(s)
}

// op tells a name that begins nothing else.
func (t *teller) op(s string) bool {
	switch s {
	case "if", "each", "read", "throw", "rec", "do",
		"host", "new", "pure", "frag", "portal", "give", "guard", "wait":
		return false
	}
	return t.name(s)
}

func isName(s string) bool {
	switch s {
	case "yes", "no", "none", "-":
		return false
	}
	words, _, _ := lex.Words(s)
	// What is idle beside a word is no part of it.
	return len(words) == 1 && words[0].Kind == api.WName && words[0].S == s
}

// quoted goes by bytes: a text need not be one of runes.
func (t *teller) quoted(s string) bool {
	if len(s) > api.MaxText {
		return false
	}
	var q strings.Builder
	q.WriteByte('"')
	for i := range len(s) {
		switch b := s[i]; b {
		case '"', '\\':
			q.WriteByte('\\')
			q.WriteByte(b)
		case '\n':
			q.WriteString(`\n`)
		default:
			q.WriteByte(b)
		}
	}
	q.WriteByte('"')
	return t.word(q.String())
}

// site: is it that of the deed that comes next?
func (t *teller) site(s string) bool {
	next := t.comp + "#" + strconv.Itoa(t.deeds)
	t.deeds++
	return s == next
}
