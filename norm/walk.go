package norm

import (
	"iter"

	"tapestry/api"
)

// walk is a way through values, which lists within lists share.
type walk struct {
	place int // of the next value that is no list
	over  bool
}

// through goes through values that are no lists, each with its place; those of a list in its place.
// For a list it calls itself with the yield that it was handed, so that what lies deep is not handed up from list to list.
func (w *walk) through(l []api.Value) iter.Seq2[int, *api.Value] {
	return func(yield func(place int, v *api.Value) bool) {
		for i := range l {
			switch {
			case w.over:
				return
			case l[i].Kind == api.List:
				w.through(l[i].L)(yield)
			default:
				w.over = !yield(w.place, &l[i])
				w.place++
			}
		}
	}
}
