package oper_test

import (
	"math"
	"strings"
	"testing"

	"tapestry/api"
	"tapestry/oper"
	"tapestry/value"
)

// P2.1: the chapter's examples.
func TestExamples(t *testing.T) {
	one, two := number(1), number(2)
	comes(t, number(5), "add", two, number(3))
	comes(t, number(-1), "sub", two, number(3))
	comes(t, number(0), "mul", number(1<<62), number(4))
	comes(t, number(math.MinInt64), "add", number(math.MaxInt64), one)
	comes(t, yes(), "lt", one, two)
	comes(t, yes(), "lt", text("a"), text("ab"))
	comes(t, no(), "lt", text("b"), text("ab"))
	fails(t, "lt", one, text("a"))
	comes(t, yes(), "eq", none(), none())
	comes(t, no(), "eq", one, text("1"))
	comes(t, no(), "not", yes())
	fails(t, "not", one)
	comes(t, text("a-5b"), "cat", text("a"), number(-5), text("b"))
	comes(t, text(""), "cat")
	fails(t, "cat", none())
	fails(t, "cat", yes())
	fails(t, "cat", long(4096), long(4096))
	comes(t, two, "len", list(one, two))
	comes(t, two, "len", text("ab"))
	comes(t, two, "at", list(one, two), one)
	comes(t, none(), "at", list(one, two), two)
	comes(t, none(), "at", list(one, two), number(-1))
	comes(t, one, "get", record(field("a", one)), text("a"))
	comes(t, none(), "get", record(field("a", one)), text("b"))
	comes(t, list(one, two), "push", list(one), two)
	comes(t, list(), "list")
	comes(t, text("[1]"), "text", list(one))
	comes(t, text("x"), "text", text("x"))
	fails(t, "add", one)
	fails(t, "add", one, two, number(3))
	fails(t, "foo", one)
	fails(t, "len", number(5))
}

// P2.1: sums, differences and products go round at 2^63 - 1 and at -2^63.
func TestArithmetic(t *testing.T) {
	const most, least = math.MaxInt64, math.MinInt64
	for _, c := range []struct {
		name       string
		a, b, want int64
	}{
		{"add", 0, 0, 0}, {"add", -2, 3, 1}, {"add", 3, -4, -1}, {"add", most, 0, most}, {"add", most - 1, 1, most},
		{"add", 1, most, least}, {"add", most, most, -2}, {"add", least, -1, most}, {"add", least, least, 0}, {"add", most, least, -1},
		{"sub", 0, 0, 0}, {"sub", 3, 2, 1}, {"sub", -2, -3, 1}, {"sub", least, 1, most}, {"sub", most, -1, least},
		{"sub", 0, least, least}, {"sub", -1, least, most}, {"sub", least, least, 0}, {"sub", least, most, 1},
		{"mul", 3, 4, 12}, {"mul", -3, 4, -12}, {"mul", 4, -3, -12}, {"mul", -3, -4, 12}, {"mul", 0, least, 0}, {"mul", 1, least, least},
		{"mul", least, -1, least}, {"mul", most, 2, -2}, {"mul", most, most, 1}, {"mul", 1 << 32, 1 << 31, least}, {"mul", 1 << 32, 1 << 32, 0},
		{"mul", 1<<32 + 1, 1<<32 + 1, 1<<33 + 1}, {"mul", most, -1, least + 1},
	} {
		comes(t, number(c.want), c.name, number(c.a), number(c.b))
	}
}

// P2.1: Ints rise by their size, texts by their bytes.
func TestLt(t *testing.T) {
	rising := [][]api.Value{
		{number(math.MinInt64), number(math.MinInt64 + 1), number(-10), number(-9), number(0), number(1), number(9), number(10), number(1 << 40), number(math.MaxInt64)},
		{text(""), text("\x00"), text("\x00\x00"), text(" "), text("1"), text("10"), text("9"), text("B"), text("a"), text("a\x00"), text("aB"), text("aa"), text("ab"),
			text("b"), text("\x7f"), text("é"), text("\uffff"), text("\U00010000"), text("\xff")},
	}
	for _, l := range rising {
		for i := range l {
			for j := range l {
				want := no()
				if i < j {
					want = yes()
				}
				comes(t, want, "lt", l[i], l[j])
			}
		}
	}
	whole := strings.Repeat("x", api.MaxText)
	comes(t, yes(), "lt", text(whole[1:]), text(whole))
	comes(t, no(), "lt", text(whole), text(whole))
}

// P2.1: eq of any two, of whatever kinds.
func TestEq(t *testing.T) {
	var all []api.Value
	for _, l := range kinds() {
		all = append(all, l...)
	}
	all = append(all, list(list()), list(none()), list(deed()), record(field("a", number(2))), record(field("b", number(1))), text("1"),
		api.Value{Kind: api.Elem, Elem: api.ElComp, S: "div"}, api.Value{Kind: api.Elem, Elem: api.ElHost, S: "div", HasKey: true})
	for i := range all {
		for j := range all {
			want := no()
			if i == j {
				want = yes()
			}
			comes(t, want, "eq", all[i], deepCopy(all[j]))
		}
	}
	empty := api.Value{Kind: api.List, L: []api.Value{}, F: make([]api.Field, 0, 3)}
	comes(t, yes(), "eq", empty, list())
}

func TestNot(t *testing.T) {
	comes(t, yes(), "not", no())
	comes(t, no(), "not", yes())
}

// P2.1: cat of none, of one, of many.
func TestCat(t *testing.T) {
	comes(t, text(""), "cat", text(""))
	comes(t, text(""), "cat", text(""), text(""))
	comes(t, text("a"), "cat", text("a"))
	comes(t, text("7"), "cat", number(7))
	comes(t, text("ab"), "cat", text("a"), text("b"))
	comes(t, text("ba"), "cat", text("b"), text("a"))
	comes(t, text("10-20"), "cat", number(1), number(0), number(-2), number(0))
	comes(t, text("-92233720368547758089223372036854775807"), "cat", number(math.MinInt64), number(math.MaxInt64))
	comes(t, text("a\"\n\\\xff"), "cat", text("a\""), text("\n\\"), text("\xff"))
	comes(t, text("é"), "cat", text("\xc3"), text("\xa9"))
	many := make([]api.Value, 5000)
	for i := range many {
		many[i] = text("")
	}
	many[4999] = number(5)
	comes(t, text("5"), "cat", many...)
}

// P2.1: of a text the bytes are counted, of a list the values right in it.
func TestLen(t *testing.T) {
	comes(t, number(0), "len", text(""))
	comes(t, number(2), "len", text("é"))
	comes(t, number(4096), "len", long(4096))
	comes(t, number(0), "len", list())
	comes(t, number(1), "len", list(list(number(1), number(2))))
	comes(t, number(4095), "len", wide(4096))
}

// P2.1: places from 0 on; none behind the last and below 0.
func TestAt(t *testing.T) {
	l := list(text("a"), list(number(1)), deed(), host([]api.Field{field("a", list(yes()))}, text("hi")), record(field("x", text("y"))), none())
	for i, v := range l.L {
		comes(t, v, "at", l, number(int64(i)))
	}
	for _, place := range []int64{6, 7, -1, -6, 1 << 32, -1 << 32, 1<<32 + 1, math.MaxInt64, math.MinInt64} {
		comes(t, none(), "at", l, number(place))
	}
	comes(t, none(), "at", list(), number(0))
	comes(t, none(), "at", list(), number(-1))
}

func TestGet(t *testing.T) {
	r := record(field("a", number(1)), field("ab", list(number(2))), field("b", none()), field("é\xff", deed(field("x", list()))))
	for _, f := range r.F {
		comes(t, f.Value, "get", r, text(f.Name))
	}
	for _, name := range []string{"", "A", "aa", "abc", "c", "é"} {
		comes(t, none(), "get", r, text(name))
	}
	comes(t, none(), "get", record(), text("a"))
	comes(t, none(), "get", record(), text(""))
}

// P2.1: what is listed or pushed stands within the list, whatever it is.
func TestListPush(t *testing.T) {
	var all []api.Value
	for k := api.None; k <= api.Deed; k++ {
		for _, v := range kinds()[k] {
			comes(t, list(v), "list", v)
			comes(t, list(v), "push", list(), v)
			comes(t, list(append(deepCopy(list(all...)).L, v)...), "push", list(all...), v)
			all = append(all, v)
		}
	}
	comes(t, list(all...), "list", all...)
	comes(t, list(list(number(1)), list(number(2))), "push", list(list(number(1))), list(number(2)))
	comes(t, list(number(1), none()), "push", list(number(1)), none())
}

// P2.1: a Text is its own text; all others are told.
func TestText(t *testing.T) {
	for _, s := range []string{"", "x", "a\"b\\\n", "\xff", "none", strings.Repeat("x", api.MaxText), strings.Repeat(`"`, api.MaxText)} {
		comes(t, text(s), "text", text(s))
	}
	for want, v := range map[string]api.Value{
		"none": none(), "-5": number(-5), "yes": yes(), "no": no(), "[]": list(), "{}": record(), `["x"]`: list(text("x")), `["a\"b" [yes]]`: list(text(`a"b`), list(yes())),
		`{"a" {"b" "\n"}}`:           record(field("a", record(field("b", text("\n"))))),
		`<host "div" {"id" 5} [""]>`: host([]api.Field{field("id", number(5))}, text("")),
	} {
		comes(t, text(want), "text", v)
		if s := value.Text(v); s != want {
			t.Errorf("%s", s)
		}
	}
}

// P2.1: a Deed in any part.
func TestTextDeed(t *testing.T) {
	some := []api.Field{field("a", number(1)), field("b", list(number(1), deed()))}
	guard := api.Value{Kind: api.Elem, Elem: api.ElGuard, F: []api.Field{field("again", deed()), field("else", none())}}
	for _, v := range []api.Value{deed(), deed(field("x", text("a"))), list(deed()), list(text("a"), deed()), list(deed(), text("a")), list(list(none(), list(deed()))),
		record(field("a", deed())), record(some...), record(field("a", list()), field("b", none()), field("c", deed())), host(some), host(nil, deed()), host(nil, text("a"), host(some)),
		host([]api.Field{field("on:click", deed())}, text("a")), guard, list(guard), list(host(nil, list(record(field("a", deed())))))} {
		if !value.Check(v) {
			t.Fatal("a value of the test may not be")
		}
		fails(t, "text", v)
	}
}

// P2.1: one value fewer than the least, one more than the most, of those that would do.
func TestHowMany(t *testing.T) {
	good := map[string][]api.Value{
		"add": {number(1), number(2)}, "sub": {number(1), number(2)}, "mul": {number(1), number(2)}, "lt": {number(1), number(2)}, "eq": {number(1), number(2)},
		"not": {yes()}, "len": {text("a")}, "at": {list(), number(0)}, "get": {record(), text("a")}, "push": {list(), none()}, "text": {text("a")},
	}
	for name, args := range good {
		least, most, ok := oper.Takes(name)
		if !ok || least != len(args) || most != len(args) {
			t.Errorf("Takes(%s): %d, %d, %v", name, least, most, ok)
		}
		if _, ok := oper.Do(name, args); !ok {
			t.Errorf("%s: false", name)
		}
		for n := range args {
			fails(t, name, args[:n]...)
		}
		for range 3 {
			args = append(args, args[len(args)-1])
			fails(t, name, args...)
		}
	}
	fails(t, "lt", text("a"), text("b"), text("c"))
	fails(t, "not", yes(), yes())
	fails(t, "len", list(), list())
	fails(t, "text", none(), none())
	fails(t, "push", list(), number(1), number(2))
}

// named tells for each kind at each place of an operation whether it is named there; "any": all are.
var named = map[string][]string{
	"add": {"i", "i"}, "sub": {"i", "i"}, "mul": {"i", "i"}, "not": {"b"}, "len": {"lt"}, "at": {"l", "i"}, "get": {"r", "t"},
	"push": {"l", "nibtlred"}, "eq": {"nibtlred", "nibtlred"}, "text": {"nibtlre"}, "cat": {"it", "it"}, "list": {"nibtlred", "nibtlred"},
}

// P2.1: values of kinds that are not named, at each place.
func TestKinds(t *testing.T) {
	const letters = "nibtlred" // of the kinds, by their numbers
	all := kinds()
	for name, places := range named {
		for a, as := range all {
			for b, bs := range all {
				want := strings.IndexByte(places[0], letters[a]) >= 0
				if len(places) > 1 {
					want = want && strings.IndexByte(places[1], letters[b]) >= 0
				}
				for _, x := range as {
					for _, y := range bs {
						args := []api.Value{x, y}[:len(places)]
						if v, ok := oper.Do(name, args); ok != want || !ok && !value.Same(v, api.Value{}) {
							t.Errorf("%s of %s: %v", name, tell(args), ok)
						}
					}
				}
			}
		}
	}
	for a, as := range all {
		for b, bs := range all {
			want := a == b && (a == api.Int || a == api.Text)
			if v, ok := oper.Do("lt", []api.Value{as[0], bs[0]}); ok != want || !ok && !value.Same(v, api.Value{}) {
				t.Errorf("lt of %s, %s: %v", value.Text(as[0]), value.Text(bs[0]), ok)
			}
		}
	}
	fails(t, "cat", text("a"), number(1), none())
	fails(t, "cat", text("a"), list(text("b")), text("c"))
}

// P2.1: a value that may not be, at each place of each operation.
func TestValuesThatMayNotBe(t *testing.T) {
	for what, v := range bad() {
		if value.Check(v) {
			t.Fatalf("%s may be", what)
		}
		for _, name := range oper.Names() {
			for _, l := range kinds() {
				for _, w := range l {
					for _, args := range [][]api.Value{{v}, {v, w}, {w, v}, {v, v}, {w, v, w}} {
						if got, ok := oper.Do(name, args); ok || !value.Same(got, api.Value{}) {
							t.Errorf("%s, a %s at one place", name, what)
						}
					}
				}
			}
		}
	}
}

// P2.1: names that there are not.
func TestNamesThatThereAreNot(t *testing.T) {
	for _, name := range wrongNames() {
		fails(t, name)
		for _, l := range kinds() {
			fails(t, name, l[0])
			fails(t, name, l[0], l[0])
			fails(t, name, l[0], number(0), text("a"))
		}
	}
}

func wrongNames() []string {
	wrong := []string{"", "foo", " ", "\x00", "\xff", "and", "or", "if", strings.Repeat("a", 1<<20)}
	for _, name := range oper.Names() {
		wrong = append(wrong, strings.ToUpper(name), name+" ", " "+name, name+"\x00", name[:len(name)-1], name+name)
	}
	return wrong
}
