package parse_test

import (
	"strings"
	"testing"

	"tapestry/api"
)

// P4.3: two texts that have programs, joined by a byte 10, have the components of both; where one has none, they have none either, but for what the one's words do to the other's.
func TestJoined(t *testing.T) {
	all := append(whole(), "", "\n", "; remark", empty+";", "; x\n"+empty, everyDeed(), "(comp do do (show (do)))", "(comp App p (show none))(comp App q (show (f (do) (do))))")
	for _, a := range all {
		for _, b := range all {
			pa, pb := got(t, a), got(t, b)
			parses(t, a+"\n"+b, append(append([]api.Component{}, pa...), pb...)...)
		}
	}
	for _, a := range all {
		line := strings.Count(a, "\n") + 1
		fails(t, a+"\n)", line, api.ErrSyntax)
		fails(t, a+"\n(comp App p\n", line, api.ErrSyntax)
		fails(t, a+"\n\n,", line+1, api.ErrWord)
	}
}
