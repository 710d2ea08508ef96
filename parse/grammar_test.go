package parse_test

import (
	"slices"
	"strings"
	"testing"

	"tapestry/api"
	"tapestry/lex"
	"tapestry/parse"
)

// grammar is the chapter's table once more, what stands behind "is" word by word.
var grammar = map[string][]string{
	"program":   {"component*"},
	"component": {"( comp NAME NAME stmt* ( show expr ) )"},
	"stmt": {"( let NAME expr )", "( state NAME expr )", "( memo NAME ( expr* ) expr )", "( use NAME NAME )",
		"( layout ( expr* ) ( act* ) ( act* ) )", "( effect ( expr* ) ( act* ) ( act* ) )", "( when expr stmt* )"},
	"act": {"( set NAME expr )", "( log expr )", "( fail expr )", "( stop )"},
	"expr": {"INT", "TEXT", "yes", "no", "none", "NAME", "( OP expr* )", "( if expr expr expr )", "( each NAME expr expr )", "( read expr )", "( throw expr )",
		"( rec pair* )", "( do act* )", "( host key NAME attrs expr* )", "( new key NAME attrs expr* )", "( pure key NAME attrs expr* )", "( frag key expr* )",
		"( portal key NAME expr* )", "( give key NAME expr expr* )", "( guard key expr expr expr* )", "( wait key expr expr* )"},
	"attrs": {"( pair* )"},
	"pair":  {"( NAME expr )"},
	"key":   {"-", "expr"},
}

// rowsOf are the grammar's, in words.
var rowsOf = func() map[string][][]string {
	all := map[string][][]string{}
	for what, rows := range grammar {
		all[what] = plain(rows, func(row string) []string { return strings.Fields(row) })
	}
	return all
}()

// still is what is still to come of a program: a word or a row of the grammar, and what comes behind it. nil: nothing.
type still struct {
	what string
	next *still
}

// begun lists all ways in which s can go on, each with a word ahead, or with nothing left.
func begun(s *still) []*still {
	if s == nil {
		return []*still{nil}
	}
	if one, ok := strings.CutSuffix(s.what, "*"); ok {
		return append(begun(s.next), begun(&still{one, s})...)
	}
	rows, ok := rowsOf[s.what]
	if !ok {
		return []*still{s}
	}
	var all []*still
	for _, row := range rows {
		next := s.next
		for _, what := range slices.Backward(row) {
			next = &still{what, next}
		}
		all = append(all, begun(next)...)
	}
	return all
}

// fits: can the word stand where what is said in the grammar?
func fits(what string, w api.Word) bool {
	isName := w.Kind == api.WName && !isOneOf(w.S, reserved)
	switch what {
	case "(":
		return w.Kind == api.WOpen
	case ")":
		return w.Kind == api.WClose
	case "INT":
		return w.Kind == api.WInt
	case "TEXT":
		return w.Kind == api.WText
	case "NAME":
		return isName
	case "OP":
		return isName && !isOneOf(w.S, keyWords)
	}
	return w.Kind == api.WName && w.S == what
}

func isOneOf(s, words string) bool { return strings.Contains(" "+words+" ", " "+s+" ") }

// judge keeps all ways in which a program may go on at once, and, for the text that comes next, what it has found out of the last one's words.
type judge struct {
	words []api.Word
	ways  [][]*still // at i: behind i of the words
}

// of: are the words a program? If not, in which line is that told?
func (j *judge) of(words []api.Word) (int, bool) {
	n := 0
	for n < len(words) && n < len(j.words) && n+1 < len(j.ways) && words[n] == j.words[n] {
		n++
	}
	if n == 0 {
		j.ways = [][]*still{begun(&still{"program", nil})}
	}
	j.words, j.ways = words, j.ways[:n+1]
	for _, w := range words[n:] {
		var behind []*still
		for _, s := range j.ways[len(j.ways)-1] {
			if s != nil && fits(s.what, w) {
				behind = append(behind, begun(s.next)...)
			}
		}
		if len(behind) == 0 {
			return w.Line, false
		}
		j.ways = append(j.ways, behind)
	}
	if slices.Contains(j.ways[len(j.ways)-1], nil) {
		return 0, true
	}
	return words[len(words)-1].Line, false
}

// judged: does Parse say of a text what the grammar says? Whether it is a program is answered.
func (j *judge) judged(t *testing.T, s string) bool {
	t.Helper()
	words, _, errno := lex.Words(s)
	if errno != api.OK {
		t.Fatalf("%q: error %d of its words", s, errno)
	}
	wantLine, ok := j.of(words)
	p, line, errno := parse.Parse(s)
	switch {
	case ok && (errno != api.OK || line != 0):
		t.Fatalf("%q: line %d, error %d, want a program", s, line, errno)
	case !ok && (errno != api.ErrSyntax || line != wantLine || len(p) > 0):
		t.Fatalf("%q: line %d, error %d, want ErrSyntax in the line %d", s, line, errno, wantLine)
	}
	return ok
}

// asked are words that are tried where others stand: each kind of word, and each name that the grammar says.
const asked = `( ) 5 "x" "let" "-" yes no none - x y comp show let state memo use layout effect when set log fail stop if each read throw rec do host new pure frag portal give guard wait value again else`

// whole are texts that have each row of the grammar within, with lists of none, one and more.
func whole() []string {
	return []string{
		empty,
		empty + " " + empty,
		"( comp A p ( let a 5 ) ( state b no ) ( use c d ) ( show x ) )",
		"( comp A p ( memo a ( ) yes ) ( memo a ( b ) none ) ( memo a ( b 1 ) x ) ( show x ) )",
		"( comp A p ( layout ( ) ( ) ( ) ) ( layout ( a ) ( ( stop ) ) ( ( log 1 ) ) ) ( show x ) )",
		"( comp A p ( effect ( ) ( ) ( ) ) ( effect ( a 1 ) ( ( stop ) ( fail x ) ) ( ( log 1 ) ( set a 1 ) ) ) ( show x ) )",
		"( comp A p ( when a ) ( when a ( let b 1 ) ) ( when a ( when b ( use a b ) ( when c ) ) ( state c 1 ) ) ( show x ) )",
		`( comp A p ( show ( f ) ) ) ( comp A p ( show ( f 1 "x" ( g ) ) ) )`,
		"( comp A p ( show ( f ( if a 1 2 ) ( each x y z ) ( read k ) ( throw e ) ) ) )",
		"( comp A p ( show ( f ( rec ) ( rec ( a 1 ) ) ( rec ( a 1 ) ( b x ) ) ) ) )",
		"( comp A p ( show ( f ( do ) ( do ( stop ) ) ( do ( set a ( do ( log 1 ) ( fail x ) ) ) ) ) ) )",
		`( comp A p ( show ( f ( host - a ( ) ) ( host k a ( ( b 1 ) ) 5 ) ( host ( f ) a ( ( b 1 ) ( c x ) ) 5 "x" ) ) ) )`,
		"( comp A p ( show ( f ( new - a ( ) ) ( new k a ( ( b 1 ) ) 5 ) ( pure - a ( ) ) ( pure k a ( ( b 1 ) ) 5 ) ) ) )",
		"( comp A p ( show ( f ( frag - ) ( frag k 1 ) ( frag - 1 2 ) ( portal - a ) ( portal k a 1 ) ( portal - a 1 2 ) ) ) )",
		"( comp A p ( show ( f ( give - a 1 ) ( give k a 1 2 ) ( wait - 1 ) ( wait k 1 2 ) ( guard - 1 2 ) ( guard k 1 2 3 ) ) ) )",
	}
}

// inLines lays each word in a line of its own, the first one in the line 0.
func inLines(words []string) string { return strings.Join(words, "\n") }

// P4.1: of whole texts: cut behind each word; with each word left out, put in, put in the place of another one.
func TestOneWordOff(t *testing.T) {
	var j judge
	good, bad := 0, 0
	try := func(words ...[]string) {
		if j.judged(t, inLines(slices.Concat(words...))) {
			good++
		} else {
			bad++
		}
	}
	for _, s := range whole() {
		l := strings.Fields(s)
		if !j.judged(t, s) {
			t.Errorf("%q is no program", s)
		}
		for i := range l {
			try(l[:i])
			try(l[:i], l[i+1:])
			try(l[:i+1], l[i:])
			for _, w := range strings.Fields(asked) {
				one := []string{w}
				try(l[:i], one)
				try(l[:i], one, l[i:])
				try(l[:i], one, l[i+1:])
			}
		}
		for _, w := range strings.Fields(asked) {
			try(l, []string{w})
		}
	}
	if good < 1000 || bad < 1000 {
		t.Errorf("%d programs, %d that are none", good, bad)
	}
}

// P4.1: all short rows of words, at the beginning and behind each of these.
func TestShortRows(t *testing.T) {
	var j judge
	some := strings.Fields(`( ) 5 "x" yes - x show let`)
	for _, s := range []string{"", "( comp", "( comp A", "( comp A p", empty, "( comp A p ( when a", "( comp A p ( memo a", "( comp A p ( layout", "( comp A p ( effect ( a )",
		"( comp A p ( show", "( comp A p ( show ( if", "( comp A p ( show ( each", "( comp A p ( show ( rec", "( comp A p ( show ( do", "( comp A p ( show ( do ( set", "( comp A p ( show ( do ( log",
		"( comp A p ( show ( host", "( comp A p ( show ( pure - a", "( comp A p ( show ( frag", "( comp A p ( show ( portal", "( comp A p ( show ( give", "( comp A p ( show ( guard", "( comp A p ( show ( wait"} {
		ahead := strings.Fields(s)
		var try func(l []string, n int)
		try = func(l []string, n int) {
			j.judged(t, inLines(l))
			if n == 0 {
				return
			}
			for _, w := range some {
				try(append(slices.Clone(l), w), n-1)
			}
		}
		try(ahead, 3)
	}
}

// P4.1: words in whatever order.
func TestAnyWords(t *testing.T) {
	var j judge
	all := strings.Fields(asked)
	state := uint32(1)
	next := func(n int) int {
		state = state*1664525 + 1013904223
		return int(state>>16) % n
	}
	for range 20000 {
		l := strings.Fields(whole()[next(len(whole()))])
		for range 1 + next(3) {
			l[next(len(l))] = all[next(len(all))]
		}
		cut := next(len(l) + 1)
		j.judged(t, inLines(append(l[:cut:cut], l[min(len(l), cut+next(3)):]...)))
	}
}
