package print_test

import (
	"fmt"
	"reflect"
	"strings"
	"testing"

	"tapestry/api"
)

// everywhere is a component with a deed in each place where an expression stands, and deeds within deeds.
const everywhere = "(comp %s p (let a (do)) (state b (do (set b (do (log (do)))) (fail (do)))) (memo c ((do) (f (do))) (do)) (use d e)" +
	" (layout ((do)) ((log (do)) (set b (do))) ((fail (do)))) (effect ((do) 1) ((stop) (log (do))) ((log (do)) (stop)))" +
	" (when (do) (let f (do)) (when (do (log (do))) (state g (do)))) (show (frag (do) (do)" +
	" (if (do) (do) (do)) (each x (do) (do)) (read (do)) (throw (do)) (rec (a (do)) (b (do)))" +
	" (host (do) a ((b (do)) (c (do))) (do) (do)) (new (do) a ((b (do))) (do)) (pure (do) a ((b (do))) (do))" +
	" (portal (do) a (do)) (give (do) a (do) (do)) (guard (do) (do) (do) (do)) (wait (do) (do) (do)) (do (set b (do)) (log (do (fail (do))))))))\n"

// sitesOf are where the deeds of a program stand, in the order in which they are come to.
func sitesOf(p *api.Program) []*string {
	var all []*string
	places(reflect.ValueOf(p).Elem(), func(v reflect.Value) {
		if e, ok := v.Interface().(api.Expr); ok && e.Kind == api.ExDeed {
			all = append(all, &v.Addr().Interface().(*api.Expr).Site)
		}
	})
	return all
}

// P5.1: sites are as said in each place where a deed stands; another one there is no text's.
func TestSites(t *testing.T) {
	for _, s := range []string{fmt.Sprintf(everywhere, "App"), fmt.Sprintf(everywhere, "A#1") + "(comp B p (show (do (log (do)))))\n(comp B p (show (do)))\n"} {
		itself(t, s)
		p := of(t, s)
		all := sitesOf(&p)
		if len(all) != strings.Count(s, "(do") {
			t.Fatalf("%d deeds", len(all))
		}
		for i, at := range all {
			was := *at
			name, n, _ := cutLast(was, "#")
			for _, other := range []string{
				"", "#", name, n, name + "#", "#" + n, name + n, name + "#0" + n, name + "#+" + n, name + "#-1", name + "#" + n + "0", name + "#1000", was + " ", " " + was, was + "\n",
				name + " #" + n, strings.ToLower(name) + "#" + n, "C#" + n, name + "x#" + n, name[1:] + "#" + n, name + "##" + n, name + "#" + n + "#", name + "#x", long(1 << 16), *all[(i+1)%len(all)], *all[(i+len(all)-1)%len(all)],
			} {
				if other == was {
					continue
				}
				*at = other
				fails(t, p, api.ErrArg, "the site %.40q in the place of %s", other, was)
			}
			*at = was
		}
		tells(t, p, s)
	}
}

func cutLast(s, sep string) (ahead, behind string, ok bool) {
	i := strings.LastIndex(s, sep)
	return s[:i], s[i+1:], i >= 0
}

// P5.1: sites begin anew with each component, whether its name stood ahead or not, and follow it, not its place.
func TestSitesOfComponents(t *testing.T) {
	const two = "(comp A p (let a (do)) (show (do)))\n(comp A p (let a (do)) (show (do)))\n(comp B p (show (do)))\n"
	itself(t, two)
	p := of(t, two)
	tells(t, api.Program{p[2], p[1], p[0]}, "(comp B p (show (do)))\n(comp A p (let a (do)) (show (do)))\n(comp A p (let a (do)) (show (do)))\n")
	p[1].Body[0].Expr.Site, p[1].Out.Site = "A#2", "A#3"
	fails(t, p, api.ErrArg, "sites that go on from the component ahead")
	p = of(t, two)
	p[2].Out.Site = "A#0"
	fails(t, p, api.ErrArg, "a site of the component ahead")
	p = of(t, two)
	p[0].Name = "C"
	fails(t, p, api.ErrArg, "another name of the component")
	p = of(t, two)
	p[0].Body = nil
	fails(t, p, api.ErrArg, "a deed less ahead")
	p = of(t, "(comp A p (show (f (do (log (do))) (do))))\n")
	l := p[0].Out.Args
	l[0], l[1] = l[1], l[0]
	fails(t, p, api.ErrArg, "deeds in another order")
	l[0].Site, l[1].Site, l[1].Acts[0].Expr.Site = "A#0", "A#1", "A#2"
	tells(t, p, "(comp A p (show (f (do) (do (log (do))))))\n")
	l[1].Site, l[1].Acts[0].Expr.Site = "A#2", "A#1"
	fails(t, p, api.ErrArg, "a deed that counts behind those within it")
}

// P5.1: a site is not bounded: of a name as long as can be, and of many deeds.
func TestGreatSites(t *testing.T) {
	itself(t, "(comp "+long(api.MaxText)+" p (show (do (log (do)))))\n")
	s := shown("(f" + strings.Repeat(" (do)", 12000) + ")")
	itself(t, s)
	p := of(t, s)
	p[0].Out.Args[11999].Site = "App#11998"
	fails(t, p, api.ErrArg, "the last site")
}
