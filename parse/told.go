package parse

import (
	"strings"

	"tapestry/api"
	"tapestry/lex"
)

// told goes through a value's text. It takes more than such texts: whether one is told just so is asked of the value.
type told struct {
	rest  string // what has not been taken
	parts int    // how many have been begun
}

// value takes one that lies so deep.
func (t *told) value(deep int) api.Value {
	t.parts++
	if t.parts > api.MaxNodes || deep > api.MaxDeep {
		panic(none{})
	}
	switch {
	case t.is("["):
		return t.list(deep)
	case t.is("{"):
		return t.record(deep)
	}
	return t.plain()
}

// is: does the rest begin with that? If so, it is taken.
func (t *told) is(s string) bool {
	rest, ok := strings.CutPrefix(t.rest, s)
	t.rest = rest
	return ok
}

func (t *told) list(deep int) api.Value {
	v := api.Value{Kind: api.List}
	for !t.is("]") {
		t.is(" ")
		v.L = append(v.L, t.value(deep+1))
	}
	return v
}

func (t *told) record(deep int) api.Value {
	v := api.Value{Kind: api.Record}
	for !t.is("}") {
		t.is(" ")
		name := t.word()
		t.is(" ")
		v.F = append(v.F, api.Field{Name: name.S, Value: t.value(deep + 1)})
	}
	return v
}

// plain takes a value of one word.
func (t *told) plain() api.Value {
	w := t.word()
	switch w.Kind {
	case api.WInt:
		return api.Value{Kind: api.Int, N: w.N}
	case api.WText:
		return api.Value{Kind: api.Text, S: w.S}
	}
	switch w.S {
	case "yes":
		return api.Value{Kind: api.Bool, N: 1}
	case "no":
		return api.Value{Kind: api.Bool}
	case "none":
		return api.Value{}
	}
	panic(none{})
}

// word takes one of chapter 3.
func (t *told) word() api.Word {
	n := first(t.rest)
	words, _, _ := lex.Words(t.rest[:n])
	if len(words) != 1 {
		panic(none{})
	}
	t.rest = t.rest[n:]
	return words[0]
}

// first: how many bytes stand ahead of what can stand behind a value's word? A text in quotes may have that within it.
func first(s string) int {
	if strings.HasPrefix(s, `"`) {
		return quoted(s)
	}
	if n := strings.IndexAny(s, " ]}"); n >= 0 {
		return n
	}
	return len(s)
}

// quoted: how many bytes has the text in quotes that s begins with? All, if it does not end.
func quoted(s string) int {
	for i := 1; i < len(s); i++ {
		switch s[i] {
		case '\\':
			i++
		case '"':
			return i + 1
		}
	}
	return len(s)
}
