package oper_test

import (
	"slices"
	"testing"

	"tapestry/oper"
)

func all() []string {
	return []string{"add", "at", "cat", "eq", "get", "len", "list", "lt", "mul", "not", "push", "sub", "text"}
}

// P2.2: Takes, of each operation.
func TestTakes(t *testing.T) {
	counts := map[string][2]int{"add": {2, 2}, "sub": {2, 2}, "mul": {2, 2}, "lt": {2, 2}, "eq": {2, 2}, "not": {1, 1}, "cat": {0, -1}, "len": {1, 1},
		"at": {2, 2}, "get": {2, 2}, "list": {0, -1}, "push": {2, 2}, "text": {1, 1}}
	for _, name := range all() {
		least, most, ok := oper.Takes(name)
		if !ok || [2]int{least, most} != counts[name] {
			t.Errorf("%s: %d, %d, %v", name, least, most, ok)
		}
	}
	for _, name := range wrongNames() {
		if least, most, ok := oper.Takes(name); ok || least != 0 || most != 0 {
			t.Errorf("%.20q: %d, %d, %v", name, least, most, ok)
		}
	}
}

// P2.2: Names, rising.
func TestNames(t *testing.T) {
	if l := oper.Names(); !slices.Equal(l, all()) {
		t.Errorf("%q", l)
	}
}

// R4, R5: each answer is a list of its own.
func TestNamesAreNew(t *testing.T) {
	l := oper.Names()
	clear(l[:cap(l)])
	again := oper.Names()
	if !slices.Equal(again, all()) {
		t.Errorf("%q", again)
	}
	if _, _, ok := oper.Takes("add"); !ok {
		t.Error("Takes")
	}
	_ = append(again[:2], "x")
	if !slices.Equal(oper.Names(), all()) {
		t.Error("changed")
	}
}
