package oper_test

import (
	"testing"

	"tapestry/api"
)

// P2.1: an answer of MaxText bytes may be, one of one more may not.
func TestMaxText(t *testing.T) {
	const most = api.MaxText
	comes(t, long(most), "cat", long(most))
	comes(t, long(most), "cat", long(most-1), text("x"))
	comes(t, long(most), "cat", text(""), long(most), text(""))
	fails(t, "cat", long(most), text("x"))
	fails(t, "cat", text("x"), long(most))
	comes(t, text(long(most-2).S+"10"), "cat", long(most-2), number(10))
	fails(t, "cat", long(most-2), number(100))
	fails(t, "cat", long(most-2), number(-10))
	many := make([]api.Value, most+1)
	for i := range many {
		many[i] = text("x")
	}
	comes(t, long(most), "cat", many[:most]...)
	fails(t, "cat", many...)
	fails(t, "cat", append(many, text(""))...)

	comes(t, text(`["`+long(most-4).S+`"]`), "text", list(long(most-4)))
	fails(t, "text", list(long(most-3)))
	comes(t, text(`["\n`+long(most-6).S+`"]`), "text", list(text("\n"+long(most-6).S)))
	fails(t, "text", list(text("\n"+long(most-5).S)))
	fails(t, "text", list(long(most), long(most)))
	fails(t, "text", record(field(long(most).S, none())))
	fails(t, "text", host(nil, long(most)))
	fails(t, "text", wide(most))
}

// P2.1: an answer of MaxNodes parts may be, one of one more may not.
func TestMaxNodes(t *testing.T) {
	const most = api.MaxNodes
	many := make([]api.Value, most)
	comes(t, wide(most), "list", many[1:]...)
	fails(t, "list", many...)
	fails(t, "list", make([]api.Value, 100*most)...)
	comes(t, list(wide(most-1)), "list", wide(most-1))
	fails(t, "list", wide(most))
	comes(t, list(wide(most/2), wide(most/2-1)), "list", wide(most/2), wide(most/2-1))
	fails(t, "list", wide(most/2), wide(most/2))
	comes(t, wide(most), "push", wide(most-1), none())
	fails(t, "push", wide(most), none())
	fails(t, "push", list(), wide(most))
	comes(t, list(wide(most-1)), "push", list(), wide(most-1))
	fails(t, "push", wide(most), wide(most))
	half := record(field("a", wide(most/2-1)))
	comes(t, list(half, wide(most/2-1)), "list", half, wide(most/2-1))
	fails(t, "list", half, half)
	comes(t, wide(most-1), "at", list(wide(most-1)), number(0))
	comes(t, wide(most-1), "get", record(field("a", wide(most-1))), text("a"))
	comes(t, number(most-1), "len", wide(most))
	comes(t, yes(), "eq", wide(most), wide(most))
}

// P2.1: parts MaxDeep within one another may be, one more may not.
func TestMaxDeep(t *testing.T) {
	const most = api.MaxDeep
	comes(t, deep(most), "list", deep(most-1))
	fails(t, "list", deep(most))
	fails(t, "list", none(), deep(most))
	comes(t, deep(most), "push", list(), deep(most-1))
	fails(t, "push", list(), deep(most))
	comes(t, list(deep(most-1), deep(most-1)), "push", deep(most), deep(most-1))
	fails(t, "push", deep(most), deep(most))
	comes(t, deep(most-1), "at", deep(most), number(0))
	in := record(field("a", deep(most-2)))
	comes(t, list(in), "list", in)
	fails(t, "list", record(field("a", deep(most-1))))
	fails(t, "list", host(nil, deep(most-1)))
	fails(t, "list", host([]api.Field{field("a", deep(most-1))}))
	comes(t, yes(), "eq", deep(most), deep(most))
}

// R1: values that are far too great or far too deep, names and lists of any length.
func TestFarTooMuch(t *testing.T) {
	v := list()
	for range 50 { // 2^50 parts, but for a few bytes
		v = list(v, v)
	}
	w := number(1)
	for range 1 << 16 {
		w = record(field("a", list(w)))
	}
	many := make([]api.Value, 1<<20)
	for _, name := range []string{"add", "sub", "mul", "lt", "eq", "not", "len", "at", "get", "list", "push", "text", "cat", "foo", ""} {
		for _, x := range []api.Value{v, w, list(v, w), long(1 << 24)} {
			fails(t, name, x)
			fails(t, name, x, x)
			fails(t, name, list(), x)
		}
		fails(t, name, many...)
	}
}
