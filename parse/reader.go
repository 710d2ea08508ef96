package parse

import (
	"strconv"

	"tapestry/api"
)

// reader goes through words. Whatever takes one that it cannot be is left by a panic at once, so that the word taken last is the one that is told.
type reader struct {
	words []api.Word
	taken int    // how many words; one more than there are: they have ended too early
	comp  string // the component that is read
	deeds int    // how many `do` of deeds have been taken of it
}

// line of the word taken last.
func (r *reader) line() int {
	return r.words[min(r.taken, len(r.words))-1].Line
}

func (r *reader) take() api.Word {
	r.taken++
	if r.taken > len(r.words) {
		panic(none{})
	}
	return r.words[r.taken-1]
}

// is: is the next word of that kind? If so, it is taken.
func (r *reader) is(k api.WordKind) bool {
	if r.taken == len(r.words) || r.words[r.taken].Kind != k {
		return false
	}
	r.taken++
	return true
}

func (r *reader) open() {
	if r.take().Kind != api.WOpen {
		panic(none{})
	}
}

func (r *reader) shut() {
	if r.take().Kind != api.WClose {
		panic(none{})
	}
}

// name takes a NAME.
func (r *reader) name() string {
	w := r.take()
	if !isName(w) {
		panic(none{})
	}
	return w.S
}

func isName(w api.Word) bool {
	switch w.S {
	case "yes", "no", "none", "-":
		return false
	}
	return w.Kind == api.WName
}

// site is that of the deed whose `do` has just been taken.
func (r *reader) site() string {
	site := r.comp + "#" + strconv.Itoa(r.deeds)
	r.deeds++
	return site
}

// all takes things, each by one, and the parenthesis that closes what holds them.
func all[T any](r *reader, one func() T) []T {
	var l []T
	for !r.is(api.WClose) {
		l = append(l, one())
	}
	return l
}

// within takes things in parentheses of their own.
func within[T any](r *reader, one func() T) []T {
	r.open()
	return all(r, one)
}
