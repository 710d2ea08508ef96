package oper

import "tapestry/api"

// row is an operation. What it does is called with as many values as it takes, each of which may be;
// its answer need be neither one that may be nor in memory of its own, and says nothing beside a false.
type row struct {
	name        string
	least, most int
	do          func(l ...api.Value) (api.Value, bool)
}

// anyNumber of values, as the most that an operation takes.
const anyNumber = -1

func rows() []row {
	return []row{
		{"add", 2, 2, add},
		{"sub", 2, 2, sub},
		{"mul", 2, 2, mul},
		{"lt", 2, 2, lt},
		{"eq", 2, 2, eq},
		{"not", 1, 1, not},
		{"cat", 0, anyNumber, cat},
		{"len", 1, 1, length},
		{"at", 2, 2, at},
		{"get", 2, 2, get},
		{"list", 0, anyNumber, list},
		{"push", 2, 2, push},
		{"text", 1, 1, text},
	}
}

// find answers the operation of that name.
func find(name string) (row, bool) {
	for _, r := range rows() {
		if r.name == name {
			return r, true
		}
	}
	return row{}, false
}

// takes: does it take n values?
func (r row) takes(n int) bool {
	return n >= r.least && (r.most == anyNumber || n <= r.most)
}
