package check_test

import (
	"testing"

	"tapestry/api"
)

// P6.1: set of a state that stands ahead, behind, within a when; in each place where acts stand.
func TestSet(t *testing.T) {
	setters := []string{
		"(layout () (%) ())", "(layout () () (%))", "(layout (1) ((stop) % (stop)) ((log 1)))", "(effect () (%) ())", "(effect () () ((stop) %))", "(let a (do %))", "(memo a ((do %)) 1)", "(memo a () (do %))",
		"(when (do %))", "(when p (effect () (%) ()))", "(let a (do (log (do %))))", "(let a (rec (a (list 1 (do %)))))", "(let a (each r p (do %)))", "(let a (do (stop) % (log 1)))", "(let a (do (set s (do %))))",
	}
	for _, m := range setters {
		m = put("(set r it)", m)
		comes(t, api.ErrName, stated(m))
		for _, states := range []string{"(state r 0)", "(state q 0) (state r 0) (state v 0)", "(when p (state r 0))", "(when p (let z 1) (when p (state q 0) (state r 0)))", "(when p (when p (state q 0)) (state r 0))", "(state r (do (set r 1)))"} {
			comes(t, api.OK, stated(states+m))
			comes(t, api.OK, stated(m+states))
			comes(t, api.OK, stated(m+"(layout () () ())"+states))
			comes(t, api.OK, stated("(when p "+m+")"+states))
			comes(t, api.OK, stated("(when p "+states+")(when p "+m+")"))
			comes(t, api.OK, stated("(when p (when p "+m+")"+states+")"))
			// It is another component's.
			comes(t, api.ErrName, stated(m)+"(comp C p "+states+" (show none))")
			comes(t, api.ErrName, "(comp C p "+states+" (show none))"+stated(m))
			comes(t, api.OK, "(comp C p "+states+m+" (state s 0) (show none))"+stated(states+m))
		}
		// It is known, but no state.
		for _, known := range []string{"(let r 0)", "(memo r () 0)", "(use r c)", "(when p (let r 0))", "(let q (each r p r))", "(let r (do (set s 1)))", "(use q r)"} {
			comes(t, api.ErrName, stated(known+m))
			comes(t, api.ErrName, stated(m+known))
		}
		comes(t, api.ErrName, "(comp App r (state s 0) "+m+" (show none))")
	}
	for _, n := range []string{"p", "it", "B", "App", "a", "r", "S", "ss"} {
		for _, s := range everyAct("(set " + n + " 1)") {
			comes(t, api.ErrName, s)
		}
	}
	for _, s := range everyAct("(set s 1)") {
		comes(t, api.OK, s)
	}
}

// P6.1: a state may be set where its name is not known yet, and where another thing of its name hides it.
func TestSetHidden(t *testing.T) {
	comes(t, api.OK, plain("(let a (do (set r 1))) (state r 0)", "none"))
	comes(t, api.ErrName, plain("(let a (do (set r r))) (state r 0)", "none"))
	comes(t, api.OK, plain("(state r 0)", "(each r p (do (set r r)))"))
	comes(t, api.OK, plain("(state it 0)", "(do (set it it))"))
	comes(t, api.OK, plain("(effect () ((set it it)) ()) (state it 0)", "none"))
	comes(t, api.ErrName, plain("", "(do (set it it))"))
	comes(t, api.ErrName, "(comp App it (show (do (set it it))))")
	comes(t, api.ErrName, plain("", "(each r p (do (set r r)))"))
}
