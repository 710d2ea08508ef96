package check_test

import (
	"strings"
	"testing"

	"tapestry/api"
)

// P6.1: a rec's and an element's names twice, next to one another and far apart, in each place.
func TestNamesTwice(t *testing.T) {
	t.Parallel()
	for _, around := range []string{"(rec %)", "(host - div (%))", "(new - B (%))", "(pure - B (%))", "(host p div (%) 1 2)", "(new 1 App (%) 1)", "(pure 1 App (%) (rec (a 1)))"} {
		for names, ok := range map[string]bool{
			"": true, "a": true, "a b": true, "b a": true, "a b c d e f": true, "f e d c b a": true, "a A": true, "a aa": true, "p s": true, "it p": true, "value again else": true,
			"a a": false, "a a b": false, "b a a": false, "a b a": false, "a b c d e f a": false, "a b c d b e f": false, "f e d c b a f": false, "b a b a": false, "a a a": false, "it it": false, "on:x on:y on:x": false,
		} {
			for _, val := range []string{"p", "1", "(rec (a 1))"} {
				var pairs []string
				for _, n := range strings.Fields(names) {
					pairs = append(pairs, "("+n+" "+val+")")
				}
				s := put(strings.Join(pairs, " "), around)
				comes(t, truly(ok), shown(s))
				if val == "p" && len(names) <= 5 {
					for _, text := range everywhere(s) {
						comes(t, truly(ok), text)
					}
				}
			}
		}
		var many strings.Builder
		for i := range 1000 {
			many.WriteString("(a" + strings.Repeat("b", i%30) + strings.Repeat("c", i/30) + " 1) ")
		}
		comes(t, api.OK, shown(put(many.String(), around)))
		comes(t, api.ErrName, shown(put(many.String()+"(a 1)", around)))
		comes(t, api.ErrName, shown(put("(abb 1)"+many.String(), around)))
	}
}

// P6.1: the same name in two records, beside one another and within one another; names of records are nothing that is known.
func TestNamesInTwo(t *testing.T) {
	for _, s := range []string{
		"(list (rec (a 1)) (rec (a 1)))", "(rec (a (rec (a (rec (a 1))))))", "(rec (a (rec (a 1))) (b (rec (a 1) (b 2))))", "(host - div ((a (rec (a 1)))) (host - div ((a 1))))",
		"(new - B ((a (pure - B ((a 1))))) (rec (a 1)))", "(rec (p p))", "(rec (s p) (p s))", "(rec (it (do (log it))))", "(each a p (rec (a a)))", "(host - div ((div p)) (host - div ((div p))))",
		"(give - value p p)", "(give - c (give - c p) (give - c p))", "(guard - (guard - 1 2) (guard - 1 2) 3)", "(wait - (wait - 1) (wait - 1))", "(rec (again 1) (else 2) (value 3))", "(rec (App p) (B p))",
	} {
		for _, text := range everywhere(s) {
			comes(t, api.OK, text)
		}
	}
	for _, s := range []string{"(rec (a 1) (b a))", "(rec (a 1) (b (list a)))", "(host - div ((a 1)) a)", "(new - B ((a 1)) a)", "(list (rec (a 1)) a)", "(give - c 1 c)", "(give - c 1 value)", "(guard - 1 2 else)", "(wait - 1 else)", "(rec (a a))", "(host a div ((a 1)))"} {
		for _, text := range everywhere(s) {
			comes(t, api.ErrName, text)
		}
	}
}
