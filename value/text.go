package value

import (
	"strconv"
	"strings"

	"tapestry/api"
)

// words of the kinds of elements stand at their numbers.
var words = [...]string{
	api.ElHost:   "host",
	api.ElComp:   "comp",
	api.ElMemo:   "memo",
	api.ElFrag:   "frag",
	api.ElPortal: "portal",
	api.ElGive:   "give",
	api.ElGuard:  "guard",
	api.ElWait:   "wait",
}

// Text: a value as text. (P1.3)
func Text(v api.Value) string {
	if !Check(v) {
		return ""
	}
	t := &teller{}
	var tell func(v *api.Value)
	tell = func(v *api.Value) {
		switch v.Kind {
		case api.None:
			t.WriteString("none")
		case api.Int:
			t.number(v.N)
		case api.Bool:
			t.truth(v.N == 1)
		case api.Text:
			t.quoted(v.S)
		case api.List:
			t.list(v.L, tell)
		case api.Record:
			t.record(v.F, tell)
		case api.Elem:
			t.elem(v, tell)
		case api.Deed:
			t.deed(v, tell)
		}
	}
	tell(&v)
	return t.String()
}

// teller gathers the text of a value; what lies within one is told by the function that it is handed.
type teller struct{ strings.Builder }

func (t *teller) number(n int64) {
	t.WriteString(strconv.FormatInt(n, 10))
}

func (t *teller) truth(yes bool) {
	if yes {
		t.WriteString("yes")
	} else {
		t.WriteString("no")
	}
}

// quoted goes by bytes: a text need not be one of runes.
func (t *teller) quoted(s string) {
	t.WriteByte('"')
	for i := range len(s) {
		switch b := s[i]; b {
		case '"', '\\':
			t.WriteByte('\\')
			t.WriteByte(b)
		case '\n':
			t.WriteString(`\n`)
		default:
			t.WriteByte(b)
		}
	}
	t.WriteByte('"')
}

func (t *teller) list(l []api.Value, tell func(*api.Value)) {
	t.WriteByte('[')
	for i := range l {
		t.between(i)
		tell(&l[i])
	}
	t.WriteByte(']')
}

func (t *teller) record(l []api.Field, tell func(*api.Value)) {
	t.WriteByte('{')
	for i := range l {
		t.between(i)
		t.quoted(l[i].Name)
		t.WriteByte(' ')
		tell(&l[i].Value)
	}
	t.WriteByte('}')
}

// between keeps what stands at place i from what stands ahead of it.
func (t *teller) between(i int) {
	if i > 0 {
		t.WriteByte(' ')
	}
}

func (t *teller) elem(v *api.Value, tell func(*api.Value)) {
	t.WriteByte('<')
	t.WriteString(words[v.Elem])
	t.WriteByte(' ')
	t.quoted(v.S)
	if v.HasKey {
		t.WriteString(" key ")
		t.quoted(v.Key)
	}
	t.WriteByte(' ')
	t.record(v.F, tell)
	t.WriteByte(' ')
	t.list(v.L, tell)
	t.WriteByte('>')
}

func (t *teller) deed(v *api.Value, tell func(*api.Value)) {
	t.WriteString("<deed ")
	t.number(v.N)
	t.WriteByte(' ')
	t.quoted(v.S)
	t.WriteByte(' ')
	t.record(v.F, tell)
	t.WriteByte('>')
}
