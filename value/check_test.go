package value_test

import (
	"testing"

	"tapestry/api"
	"tapestry/value"
)

type checked struct {
	name string
	v    api.Value
	ok   bool
}

func checkAll(t *testing.T, l []checked) {
	t.Helper()
	for _, c := range l {
		if ok := value.Check(c.v); ok != c.ok {
			t.Errorf("%s: Check is %v", c.name, ok)
		}
	}
}

// P1.1: the rows of the table of values.
func TestCheckRows(t *testing.T) {
	checkAll(t, []checked{
		{"none", none(), true},
		{"0", number(0), true},
		{"greatest Int", number(1<<63 - 1), true},
		{"least Int", number(-1 << 63), true},
		{"no", truth(0), true},
		{"yes", truth(1), true},
		{"Bool 2", truth(2), false},
		{"Bool -1", truth(-1), false},
		{"Bool 256", truth(256), false},
		{"Bool 2^32", truth(1 << 32), false},
		{"empty text", text(""), true},
		{"text of any bytes", text("a\x00\xff\n\"\\é"), true},
		{"empty list", list(), true},
		{"list", list(none(), number(1), text("a"), list()), true},
		{"empty record", record(), true},
		{"record", record(field("a", number(1)), field("b", list())), true},
		{"deed", deed(7, "App#0", field("x", number(1))), true},
		{"deed that knows nothing", deed(7, "App#0"), true},
		{"deed of a great number", deed(1<<62, "App#0"), true},
	})
}

// P1.1: a kind's row and, of each field that a value has, whether the row names it.
func TestCheckOtherFieldsAreZero(t *testing.T) {
	bases := []api.Value{none(), number(5), truth(1), text("a"), list(none()), record(named("a")...),
		elem(api.ElHost, "a", nil), deed(1, "A#0")}
	sets := map[string]struct {
		set   func(v *api.Value)
		kinds []api.Kind // that may have it
	}{
		"N":                   {func(v *api.Value) { v.N = 1 }, []api.Kind{api.Int, api.Bool, api.Deed}},
		"N, one that is more": {func(v *api.Value) { v.N = 1 << 40 }, []api.Kind{api.Int, api.Deed}},
		"S":                   {func(v *api.Value) { v.S = "x" }, []api.Kind{api.Text, api.Elem, api.Deed}},
		"L":                   {func(v *api.Value) { v.L = []api.Value{none()} }, []api.Kind{api.List, api.Elem}},
		"F":                   {func(v *api.Value) { v.F = named("x") }, []api.Kind{api.Record, api.Elem, api.Deed}},
		"Elem":                {func(v *api.Value) { v.Elem = api.ElComp }, []api.Kind{api.Elem}},
		"Elem of a text":      {func(v *api.Value) { v.Elem = api.ElText }, nil},
		"HasKey":              {func(v *api.Value) { v.HasKey = true }, []api.Kind{api.Elem}},
		"HasKey and Key":      {func(v *api.Value) { v.HasKey, v.Key = true, "k" }, []api.Kind{api.Elem}},
		"Key alone":           {func(v *api.Value) { v.Key = "k" }, nil},
	}
	for name, s := range sets {
		for _, v := range bases {
			ok := false
			for _, k := range s.kinds {
				ok = ok || k == v.Kind
			}
			s.set(&v)
			if value.Check(v) != ok {
				t.Errorf("%s of the kind %d: Check is not %v", name, v.Kind, ok)
			}
		}
	}
}

// P1.1: kinds that there are not.
func TestCheckKindsThatThereAreNot(t *testing.T) {
	for k := 8; k < 256; k++ {
		if value.Check(api.Value{Kind: api.Kind(k)}) {
			t.Errorf("the kind %d may be", k)
		}
	}
	for k := range 256 {
		may := k >= int(api.ElHost) && k <= int(api.ElWait)
		got := false
		for _, s := range []string{"", "a"} {
			for _, f := range [][]api.Field{nil, named("value"), named("else"), named("again", "else")} {
				got = got || value.Check(elem(api.ElemKind(k), s, f))
			}
		}
		if got != may {
			t.Errorf("elements of the kind %d: %v", k, got)
		}
	}
}

// P1.1: the rows of the table of elements.
func TestCheckElements(t *testing.T) {
	var l []checked
	add := func(name string, v api.Value, ok bool) { l = append(l, checked{name, v, ok}) }
	for name, k := range map[string]api.ElemKind{"host": api.ElHost, "comp": api.ElComp, "memo": api.ElMemo} {
		add(name, elem(k, "a", nil), true)
		add(name+" with all", keyed(elem(k, "a", named("a", "b"), none(), text("x")), "k"), true)
		add(name+" with the field value", elem(k, "a", named("value")), true)
		add(name+" without a name", elem(k, "", nil), false)
	}
	add("frag", elem(api.ElFrag, "", nil, none()), true)
	add("frag with S", elem(api.ElFrag, "a", nil), false)
	add("frag with a field", elem(api.ElFrag, "", named("a")), false)
	add("portal", elem(api.ElPortal, "a", nil, none()), true)
	add("portal without a place", elem(api.ElPortal, "", nil), false)
	add("portal with a field", elem(api.ElPortal, "a", named("a")), false)
	add("give without a name", elem(api.ElGive, "", named("value")), false)
	add("guard with S", elem(api.ElGuard, "a", named("again", "else")), false)
	add("wait with S", elem(api.ElWait, "a", named("else")), false)
	checkAll(t, l)
}

// P1.1: of give, guard and wait the names of the fields, just as they are said.
func TestCheckElementsFields(t *testing.T) {
	lists := [][]string{{}, {"value"}, {"else"}, {"again"}, {"again", "else"}, {"else", "value"}, {"again", "value"},
		{"again", "else", "value"}, {"again", "else", "z"}, {"a", "again", "else"}, {"else", "again"}, {"value", "value"},
		{"else", "else"}, {"a", "value"}, {"value", "z"}, {"a", "else"}, {"else", "z"}, {"Value"}, {"valu"}, {"values"}, {"a"}, {"a", "b"},
		{"again", "b"}, {"a", "else"}, {""}}
	rows := []struct {
		k    api.ElemKind
		s    string
		want string
	}{{api.ElGive, "c", "value,"}, {api.ElGuard, "", "again,else,"}, {api.ElWait, "", "else,"}, {api.ElFrag, "", ""}, {api.ElPortal, "p", ""}}
	for _, r := range rows {
		for _, names := range lists {
			all := ""
			for _, name := range names {
				all += name + ","
			}
			if ok := value.Check(elem(r.k, r.s, named(names...), none())); ok != (all == r.want) {
				t.Errorf("kind %d, fields %q: %v", r.k, names, ok)
			}
		}
	}
}

// P1.1: keys.
func TestCheckKeys(t *testing.T) {
	for k := api.ElHost; k <= api.ElWait; k++ {
		v := anElem(k)
		bare := v
		bare.Key = "k"
		checkAll(t, []checked{
			{"no key", v, true},
			{"key", keyed(v, "k"), true},
			{"empty key", keyed(v, ""), true},
			{"key of MaxText", keyed(v, long(api.MaxText)), true},
			{"key of one more", keyed(v, long(api.MaxText+1)), false},
			{"Key, HasKey not set", bare, false},
		})
	}
}

// anElem is one of the kind that may be.
func anElem(k api.ElemKind) api.Value {
	switch k {
	case api.ElFrag:
		return elem(k, "", nil)
	case api.ElGive:
		return elem(k, "c", named("value"))
	case api.ElGuard:
		return elem(k, "", named("again", "else"))
	case api.ElWait:
		return elem(k, "", named("else"))
	}
	return elem(k, "a", nil)
}

// P1.1: names of fields are names, rise as their bytes do, and no two are alike.
func TestCheckNames(t *testing.T) {
	lists := []struct {
		names []string
		ok    bool
	}{
		{[]string{"a", "b", "c"}, true}, {[]string{"b", "a"}, false}, {[]string{"a", "a"}, false},
		{[]string{"a", "c", "b"}, false}, {[]string{"a", "b", "b"}, false}, {[]string{"a", "b", "a"}, false}, {[]string{"c", "a", "b"}, false},
		{[]string{"a", "ab"}, true}, {[]string{"ab", "a"}, false}, {[]string{"b", "ab"}, false}, {[]string{"ab", "b"}, true},
		{[]string{"B", "a"}, true}, {[]string{"a", "B"}, false},
		{[]string{"10", "9"}, true}, {[]string{"9", "10"}, false},
		{[]string{"z", "é"}, true}, {[]string{"é", "z"}, false},
		{[]string{"\x00", "\x01", "\x7f", "\x80", "\xff"}, true}, {[]string{"\x80", "\x7f"}, false}, {[]string{"\xff", "é"}, false}, {[]string{"é", "\xff"}, true},
		{[]string{"\uffff", "\U00010000"}, true},
		{[]string{"a", "a\x00"}, true}, {[]string{"a\x00", "a"}, false},
		{[]string{""}, false}, {[]string{"", "a"}, false}, {[]string{"a", ""}, false},
		{[]string{" "}, true}, {[]string{"x y", "\n"}, false}, {[]string{"\n", "x y"}, true},
		{[]string{long(api.MaxText)}, true}, {[]string{long(api.MaxText + 1)}, false},
		{[]string{"a", long(api.MaxText)}, true}, {[]string{"a", long(api.MaxText + 1)}, false},
		{[]string{long(api.MaxText + 1), "y"}, false},
	}
	for _, c := range lists {
		f := named(c.names...)
		checkAll(t, []checked{
			{"record", record(f...), c.ok},
			{"host", elem(api.ElHost, "a", f), c.ok},
			{"comp", elem(api.ElComp, "a", f), c.ok},
			{"memo", elem(api.ElMemo, "a", f), c.ok},
			{"deed", deed(1, "A#0", f...), c.ok},
		})
		if t.Failed() {
			t.Fatalf("names %.40q", c.names)
		}
	}
}

// P1.1: MaxText is allowed, one more byte is not; bytes are counted, not runes.
func TestCheckMaxText(t *testing.T) {
	made := map[string]func(s string) api.Value{
		"text":   text,
		"host":   func(s string) api.Value { return elem(api.ElHost, s, nil) },
		"comp":   func(s string) api.Value { return elem(api.ElComp, s, nil) },
		"memo":   func(s string) api.Value { return elem(api.ElMemo, s, nil) },
		"portal": func(s string) api.Value { return elem(api.ElPortal, s, nil) },
		"give":   func(s string) api.Value { return elem(api.ElGive, s, named("value")) },
		"deed":   func(s string) api.Value { return deed(1, s) },
	}
	runes := ""
	for range api.MaxText / 2 {
		runes += "é"
	}
	for name, f := range made {
		checkAll(t, []checked{
			{name + " of a byte", f("x"), true},
			{name + " of MaxText", f(long(api.MaxText)), true},
			{name + " of one more", f(long(api.MaxText + 1)), false},
			{name + " of MaxText in runes", f(runes), true},
			{name + " of one more in runes", f(runes + "x"), false},
		})
	}
}

// P1.1: MaxNodes parts are allowed, one more is not, wherever they lie.
func TestCheckMaxNodes(t *testing.T) {
	const n = api.MaxNodes
	half := func(m int) api.Value { return elem(api.ElHost, "a", fields(n/2), make([]api.Value, m)...) }
	var rows, more []api.Value
	for range n / 64 {
		rows = append(rows, wide(64))
	}
	more = append(append(more, rows[1:]...), wide(62), none()) // with the list itself: n
	checkAll(t, []checked{
		{"list", wide(n), true},
		{"list, one more", wide(n + 1), false},
		{"list, far more", wide(64 * n), false},
		{"record", record(fields(n - 1)...), true},
		{"record, one more", record(fields(n)...), false},
		{"deed", deed(1, "A#0", fields(n-1)...), true},
		{"deed, one more", deed(1, "A#0", fields(n)...), false},
		{"element", half(n/2 - 1), true},
		{"element, one more", half(n / 2), false},
		{"lists in a list", list(more...), true},
		{"lists in a list, one more", list(rows...), false},
		{"list in a record", record(field("a", wide(n-1))), true},
		{"list in a record, one more", record(field("a", wide(n))), false},
		{"two lists in a record", record(field("a", wide(n/2)), field("b", wide(n/2-1))), true},
		{"two lists in a record, one more", record(field("a", wide(n/2)), field("b", wide(n/2))), false},
	})
}

// P1.1: MaxDeep is allowed, one more is not, whatever lies in what.
func TestCheckMaxDeep(t *testing.T) {
	for name, wrap := range wraps() {
		checkAll(t, []checked{
			{name, nest(none(), api.MaxDeep-1, wrap), true},
			{name + ", one more", nest(none(), api.MaxDeep, wrap), false},
			{name + ", far more", nest(none(), 5000, wrap), false},
			{name + " of lists", nest(nest(list(), 30, wrap), 33, func(v api.Value) api.Value { return list(v) }), true},
			{name + " of lists, one more", nest(nest(list(), 31, wrap), 33, func(v api.Value) api.Value { return list(v) }), false},
		})
	}
	deep := nest(none(), api.MaxDeep-2, func(v api.Value) api.Value { return list(v) })
	checkAll(t, []checked{
		{"several beside one another", list(deep, deep, deep), true},
		{"the last one too deep", list(deep, list(deep)), false},
	})
}

// P1.1: a value whose parts may not be may not be, wherever they lie.
func TestCheckParts(t *testing.T) {
	bad := []api.Value{truth(2), {Kind: 8}, {N: 1}, {Kind: api.Int, S: "x"}, record(named("b", "a")...), text(long(api.MaxText + 1)),
		elem(api.ElText, "", nil), elem(api.ElHost, "", nil), elem(api.ElWait, "", nil), {Kind: api.List, Key: "k"}}
	for name, wrap := range wraps() {
		for i, v := range bad {
			if !value.Check(wrap(none())) || value.Check(wrap(v)) {
				t.Errorf("%s, %d", name, i)
			}
			if value.Check(wrap(wrap(wrap(v)))) {
				t.Errorf("%s, %d, deeper", name, i)
			}
		}
	}
}

// R4: empty and nil mean the same.
func TestCheckEmptyLists(t *testing.T) {
	for _, v := range []api.Value{none(), number(1), truth(1), text("a"), list(), record(), elem(api.ElFrag, "", nil), deed(1, "A#0")} {
		v.L, v.F = []api.Value{}, []api.Field{}
		if !value.Check(v) {
			t.Errorf("the kind %d with empty lists may not be", v.Kind)
		}
	}
}
