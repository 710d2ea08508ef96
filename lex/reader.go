package lex

import (
	"strconv"
	"strings"

	"tapestry/api"
)

// reader goes through a text. No word has a byte 10 in it, so that line is that of a word's first byte wherever in the word it stands.
type reader struct {
	rest string // what has not been eaten
	line int    // how many bytes 10 have been eaten
}

// eat answers the bytes that come next, as long as more says so of each.
func (r *reader) eat(more func(b byte) bool) string {
	n := 0
	for n < len(r.rest) && more(r.rest[n]) {
		n++
	}
	eaten := r.rest[:n]
	r.rest = r.rest[n:]
	return eaten
}

// idle passes over what is idle.
func (r *reader) idle() {
	within := false // a remark
	r.line += lines(r.eat(func(b byte) bool {
		if within {
			// The byte 10 that ends it is idle, too.
			within = b != '\n'
			return true
		}
		k := kindOf(b)
		within = k == remark
		return within || k == blank
	}))
}

// lines counts the bytes 10; bytes that are no runes are gone through one by one, so that none is lost behind them.
func lines(s string) int {
	n := 0
	for _, c := range s {
		if c == '\n' {
			n++
		}
	}
	return n
}

// word takes the next one, without its line; false: none begins here.
func (r *reader) word() (api.Word, bool) {
	switch kindOf(r.rest[0]) {
	case opens:
		r.rest = r.rest[1:]
		return api.Word{Kind: api.WOpen}, true
	case closes:
		r.rest = r.rest[1:]
		return api.Word{Kind: api.WClose}, true
	case quote:
		return r.text()
	case digit, minus, plain:
		return r.nameOrNumber()
	}
	return api.Word{}, false
}

// text takes one in quotes.
func (r *reader) text() (api.Word, bool) {
	r.rest = r.rest[1:]
	var s strings.Builder
	behind := false // a backslash
	r.eat(func(b byte) bool {
		if b == '\\' && !behind {
			behind = true
			return true
		}
		one, ok := b, b != '"' && b != '\n'
		if behind {
			one, ok = standsFor(b)
			behind = false
		}
		if ok {
			s.WriteByte(one)
		}
		return ok
	})
	// A quote behind a backslash is always eaten, so that one that is left is the text's end.
	if r.rest == "" || kindOf(r.rest[0]) != quote || s.Len() > api.MaxText {
		return api.Word{}, false
	}
	r.rest = r.rest[1:]
	return api.Word{Kind: api.WText, S: s.String()}, true
}

// nameOrNumber takes all of name's bytes that come next: a number with one right behind it is none, so that each of them is a part of the word.
func (r *reader) nameOrNumber() (api.Word, bool) {
	s := r.eat(inNames)
	if beginsNumber(s) {
		return number(s)
	}
	if len(s) > api.MaxText {
		return api.Word{}, false
	}
	// A copy: else the word would hold fast the whole text.
	return api.Word{Kind: api.WName, S: strings.Clone(s)}, true
}

func beginsNumber(s string) bool {
	if kindOf(s[0]) == minus {
		s = s[1:]
	}
	return s != "" && kindOf(s[0]) == digit
}

// number of digits: those that it would be told with are the only ones that may be, so that needless noughts and -0 are none.
func number(s string) (api.Word, bool) {
	n, err := strconv.ParseInt(s, 10, 64)
	if err != nil || strconv.FormatInt(n, 10) != s {
		return api.Word{}, false
	}
	return api.Word{Kind: api.WInt, N: n}, true
}
