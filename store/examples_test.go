package store_test

import (
	"testing"

	"tapestry/api"
	"tapestry/store"
)

// The chapter's examples, one behind the other.
func TestExamples(t *testing.T) {
	s := store.New()
	asks(t, s, true, "b", "a")
	asks(t, s, false, "b")
	waits(t, s, "a", "b")
	settles(t, s, good("b", number(5)))
	refuses(t, s, api.ErrGone, good("b", number(6)), good("c", number(1)))
	refuses(t, s, api.ErrArg, good("a", truth(2)))
	getsNone(t, s, "a")
	waits(t, s, "a")
	came(t, s, good("b", number(5)))
	asks(t, s, false, "b")
}

// The chapter's example of a store that is not there.
func TestExampleOfNil(t *testing.T) {
	var s *store.Store
	if got, errno := s.Ask("a"); got || errno != api.ErrNil {
		t.Errorf("Ask: %v, error %d", got, errno)
	}
	if errno := s.Settle(good("a", number(5))); errno != api.ErrNil {
		t.Errorf("Settle: error %d", errno)
	}
	getsNone(t, s, "a")
	waits(t, s)
}
