package match_test

import (
	"testing"

	"tapestry/api"
	"tapestry/norm"
)

// P8.1: the chapter's examples, by unlike tags, and by unlike kinds.
func TestExamples(t *testing.T) {
	a := func(key string) api.Child { return host(key, "p") }
	// Alike to a, though its value is another one.
	b := func(key string) api.Child {
		c := host(key, "p")
		c.Value.L = []api.Value{{Kind: api.Int, N: 1}}
		return c
	}
	for _, c := range []func(key string) api.Child{
		func(key string) api.Child { return host(key, "q") },
		func(key string) api.Child { return api.Child{Key: key, Kind: api.ElComp, Name: "p"} },
		func(key string) api.Child { return text(key, "p") },
	} {
		comes(t, of(a("k:x"), a("k:y")), of(b("k:y"), a("i:1"), c("k:x")), 1, -1, -1)
		comes(t, nil, of(a("k:x")), -1)
		comes(t, of(a("k:x")), of(b("k:x"), b("k:x")), 0, -1)
		comes(t, of(c("k:x"), a("k:x")), of(a("k:x")), -1)
	}
}

// P8.1: of no old children none goes on; of no new ones there is nothing to answer, whatever says that there are none.
func TestNothing(t *testing.T) {
	p := host("k:x", "p")
	for _, no := range [][]api.Child{nil, {}, make([]api.Child, 0, 3), of(p, p)[:0]} {
		comes(t, no, no)
		comes(t, nil, no)
		comes(t, no, nil)
		comes(t, of(p), no)
		comes(t, of(p, host("k:y", "p"), p), no)
		comes(t, no, of(p), -1)
		comes(t, no, of(p, host("i:1", "p"), p), -1, -1, -1)
	}
}

// P8.1: children of the zero value are as any others.
func TestZeroChildren(t *testing.T) {
	zero := api.Child{}
	comes(t, of(zero), of(zero), 0)
	comes(t, of(zero, zero), of(zero, zero, zero), 0, -1, -1)
	comes(t, of(zero), of(host("", "p"), zero), -1, 0)
	comes(t, make([]api.Child, 5), make([]api.Child, 3), 0, -1, -1)
}

// P8.1: some lists by hand: put in ahead, between and behind, left out, moved.
func TestByHand(t *testing.T) {
	p := func(key string) api.Child { return host(key, "p") }
	abc := of(p("k:a"), p("k:b"), p("k:c"))
	comes(t, abc, abc, 0, 1, 2)
	comes(t, abc, turned(abc), 2, 1, 0)
	comes(t, abc, of(p("k:n"), p("k:a"), p("k:b"), p("k:c")), -1, 0, 1, 2)
	comes(t, abc, of(p("k:a"), p("k:n"), p("k:b"), p("k:c")), 0, -1, 1, 2)
	comes(t, abc, of(p("k:a"), p("k:b"), p("k:c"), p("k:n")), 0, 1, 2, -1)
	comes(t, abc, of(p("k:b"), p("k:c")), 1, 2)
	comes(t, abc, of(p("k:a"), p("k:c")), 0, 2)
	comes(t, abc, of(p("k:a"), p("k:b")), 0, 1)
	comes(t, abc, of(p("k:c")), 2)
	comes(t, abc, of(p("k:n"), p("k:m")), -1, -1)
	comes(t, abc, of(p("k:a"), host("k:b", "q"), p("k:c")), 0, -1, 2)
	comes(t, abc, of(p("k:c"), text("i:1", "t"), p("k:a"), p("k:n"), p("k:b")), 2, -1, 0, -1, 1)
}

// P8.1: children as norm.Kids tells them.
func TestOfNorm(t *testing.T) {
	p := func(tag, key string) api.Value {
		return api.Value{Kind: api.Elem, Elem: api.ElHost, S: tag, HasKey: key != "", Key: key}
	}
	s := api.Value{Kind: api.Text, S: "s"}
	old := norm.Kids([]api.Value{p("li", "1"), p("li", "2"), {}, s, p("p", "")})
	comes(t, old, norm.Kids([]api.Value{p("li", "2"), p("li", "1"), {}, {Kind: api.Int, N: 7}, p("p", "")}), 1, 0, 2, 3)
	comes(t, old, norm.Kids([]api.Value{p("li", "2"), p("li", "2"), s, s, p("q", "")}), 1, -1, -1, 2, -1)
	// A place without a key is none of a key that reads alike.
	comes(t, old, norm.Kids([]api.Value{p("li", ""), p("li", ""), p("p", "4"), p("p", "3")}), -1, -1, -1, -1)
	// What stood ahead has gone: those without keys are other ones, those with keys the same.
	comes(t, old, norm.Kids([]api.Value{p("li", "2"), {}, s, p("p", "")}), 1, -1, -1)
}
