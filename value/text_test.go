package value_test

import (
	"strings"
	"testing"

	"tapestry/api"
	"tapestry/value"
)

type told struct {
	v    api.Value
	want string
}

func textAll(t *testing.T, l []told) {
	t.Helper()
	for _, c := range l {
		if s := value.Text(c.v); s != c.want {
			t.Errorf("%q, want %q", s, c.want)
		}
	}
}

// P1.3: each row of the table.
func TestText(t *testing.T) {
	textAll(t, []told{
		{none(), `none`},
		{number(0), `0`}, {number(7), `7`}, {number(10), `10`}, {number(-5), `-5`}, {number(-100), `-100`}, {number(1234567), `1234567`},
		{number(1<<63 - 1), `9223372036854775807`}, {number(-1 << 63), `-9223372036854775808`},
		{truth(1), `yes`}, {truth(0), `no`},
		{text(""), `""`}, {text("abc"), `"abc"`},
		{list(), `[]`}, {list(none()), `[none]`}, {list(number(1), number(2), number(3)), `[1 2 3]`},
		{list(list(), list(list())), `[[] [[]]]`}, {list(none(), number(-5), truth(1), text(`a"b`)), `[none -5 yes "a\"b"]`},
		{record(), `{}`}, {record(field("a", number(1))), `{"a" 1}`},
		{record(field("a", number(1)), field("b c", list()), field("d\"\n", record())), `{"a" 1 "b c" [] "d\"\n" {}}`},
	})
}

// P1.3: elements and deeds.
func TestTextOfElements(t *testing.T) {
	textAll(t, []told{
		{elem(api.ElHost, "div", nil), `<host "div" {} []>`},
		{keyed(elem(api.ElHost, "div", []api.Field{field("id", number(5))}, text("hi")), "k"), `<host "div" key "k" {"id" 5} ["hi"]>`},
		{elem(api.ElComp, "A", []api.Field{field("a", number(1)), field("b", truth(0))}, none(), none()), `<comp "A" {"a" 1 "b" no} [none none]>`},
		{elem(api.ElMemo, "A", nil), `<memo "A" {} []>`},
		{elem(api.ElFrag, "", nil, number(1), number(2)), `<frag "" {} [1 2]>`},
		{elem(api.ElPortal, "top", nil), `<portal "top" {} []>`},
		{elem(api.ElGive, "c", named("value")), `<give "c" {"value" none} []>`},
		{elem(api.ElGuard, "", named("again", "else"), text("x")), `<guard "" {"again" none "else" none} ["x"]>`},
		{elem(api.ElWait, "", named("else")), `<wait "" {"else" none} []>`},
		{keyed(elem(api.ElFrag, "", nil), ""), `<frag "" key "" {} []>`},
		{keyed(elem(api.ElFrag, "", nil), "a\"\\\n"), `<frag "" key "a\"\\\n" {} []>`},
		{elem(api.ElHost, "a\"b", nil), `<host "a\"b" {} []>`},
		{elem(api.ElHost, "a", nil, elem(api.ElHost, "b", nil, elem(api.ElFrag, "", nil))), `<host "a" {} [<host "b" {} [<frag "" {} []>]>]>`},
		{deed(7, "App#0", field("x", number(1))), `<deed 7 "App#0" {"x" 1}>`},
		{deed(1<<62, "A\n", field("a", deed(3, "A#1")), field("b", none())), `<deed 4611686018427387904 "A\n" {"a" <deed 3 "A#1" {}> "b" none}>`},
	})
	for k, word := range []string{"", "host", "comp", "memo", "frag", "portal", "give", "guard", "wait"} {
		if k > 0 && !strings.HasPrefix(value.Text(keyed(anElem(api.ElemKind(k)), "k")), "<"+word+" \"") {
			t.Errorf("the word of %d is not %s", k, word)
		}
	}
}

// P1.3: each byte in quotes, in each place where a text stands.
func TestTextQuotes(t *testing.T) {
	for b := range 256 {
		s := string([]byte{byte(b)})
		want := `"` + s + `"`
		switch b {
		case '"':
			want = `"\""`
		case '\\':
			want = `"\\"`
		case 10:
			want = `"\n"`
		}
		textAll(t, []told{
			{text(s), want},
			{record(field(s, none())), `{` + want + ` none}`},
			{elem(api.ElHost, s, nil), `<host ` + want + ` {} []>`},
			{keyed(elem(api.ElFrag, "", nil), s), `<frag "" key ` + want + ` {} []>`},
			{deed(1, s), `<deed 1 ` + want + ` {}>`},
		})
	}
	textAll(t, []told{
		{text("é\xff\u2028\x00\t\r"), "\"é\xff\u2028\x00\t\r\""},
		{text(`\n`), `"\\n"`}, {text(`\"`), `"\\\""`}, {text("a\n\nb"), `"a\n\nb"`}, {text("\"\"\\\\"), `"\"\"\\\\"`},
		{text(long(api.MaxText)), `"` + long(api.MaxText) + `"`},
		{text(strings.Repeat("\n", api.MaxText)), `"` + strings.Repeat(`\n`, api.MaxText) + `"`},
	})
}

// P1.3: at the limits, and behind them.
func TestTextLimits(t *testing.T) {
	wrap := func(v api.Value) api.Value { return list(v) }
	textAll(t, []told{
		{wide(api.MaxNodes), "[none" + strings.Repeat(" none", api.MaxNodes-2) + "]"},
		{wide(api.MaxNodes + 1), ""},
		{nest(none(), api.MaxDeep-1, wrap), strings.Repeat("[", 63) + "none" + strings.Repeat("]", 63)},
		{nest(none(), api.MaxDeep, wrap), ""},
		{text(long(api.MaxText + 1)), ""},
	})
}

// P1.3: the empty text of what may not be.
func TestTextOfWhatMayNotBe(t *testing.T) {
	bad := []api.Value{truth(2), truth(-1), {N: 1}, {Kind: api.Int, S: "x"}, {Kind: 8}, {Kind: 255}, record(named("b", "a")...), record(named("a", "a")...),
		record(named("")...), elem(api.ElNone, "a", nil), elem(api.ElText, "a", nil), elem(255, "a", nil), elem(api.ElHost, "", nil), elem(api.ElFrag, "x", nil),
		elem(api.ElGive, "c", named("else")), {Kind: api.Elem, Elem: api.ElFrag, Key: "k"}, {Kind: api.List, HasKey: true}, full(),
		{Kind: api.Deed, Elem: api.ElHost}}
	for i, v := range bad {
		if s := value.Text(v); s != "" {
			t.Errorf("%d: %q", i, s)
		}
		for way, wrap := range wraps() {
			if s := value.Text(wrap(v)); s != "" {
				t.Errorf("%d in a %s: %q", i, way, s)
			}
		}
	}
}
