package cones_test

import (
	"slices"
	"testing"

	"comfit/api"
	"comfit/cones"
)

// lists are the results that are slices of slices, of arguments that all these functions take.
func lists(a [][]int, x, y []int) map[string][][]int {
	out := map[string][][]int{}
	out["Basic"], _ = cones.Basic(a)
	out["Pure"], _ = cones.Pure(a)
	out["Split"], _ = cones.Split(a, minus(x, y))
	out["Family"], _ = cones.Family(a, x)
	out["Way"], _ = cones.Way(a, x, y)
	return out
}

// Rule 2: the same calls give the same results, also where they are free.
func TestSameCallsGiveSameResults(t *testing.T) {
	c := &chance{18}
	for _, a := range special() {
		if isZero(slices.Concat(a...)) {
			continue
		}
		x, y := c.pair(a)
		want := lists(a, x, y)
		for range 5 {
			for name, l := range lists(a, x, y) {
				if !same(l, want[name]) {
					t.Error(name, a, x, y, l, want[name])
				}
			}
		}
	}
}

// Rule 4: no argument is changed, and no result shares memory with an argument or with another slice of the result.
func TestMemory(t *testing.T) {
	for _, a := range [][][]int{{{1, 1, 1}}, {{1, 1, -2}}, {{1, 1, -2}, {2, 2, -2}}} {
		x, y := []int{3, 0, 1}, []int{0, 3, 1}
		oldA, oldX, oldY := clone(a), slices.Clone(x), slices.Clone(y)
		want := lists(a, x, y)
		for name, l := range lists(a, x, y) {
			for i := range l {
				l[i] = append(l[i], 77)
				for j := range l[i] {
					l[i][j] = 99
				}
			}
			for _, v := range l {
				if slices.ContainsFunc(v, func(n int) bool { return n != 99 }) {
					t.Error(name, l)
				}
			}
			if !same(a, oldA) || !slices.Equal(x, oldX) || !slices.Equal(y, oldY) {
				t.Fatal(name, "changed", a, x, y)
			}
		}
		for name, l := range lists(a, x, y) {
			if !same(l, want[name]) {
				t.Error(name, l, want[name])
			}
		}
	}
}

// Rule 4
func TestMemoryOfVectors(t *testing.T) {
	a, x, prices := [][]int{{1, 1, 1}}, []int{0, 0, 2}, []int{1, 2, 3}
	l, _ := cones.Step(a, x, prices)
	k, _ := cones.Times(a, x)
	l[0], k[0] = 99, 99
	if !same(a, [][]int{{1, 1, 1}}) || !slices.Equal(x, []int{0, 0, 2}) || !slices.Equal(prices, []int{1, 2, 3}) {
		t.Error(a, x, prices)
	}
	way := [][]int{{0, 0, 2}, {1, 0, 1}}
	split := [][]int{{-1, 0, 1}, {0, -1, 1}}
	if ok, e := cones.CheckWay(a, x, []int{1, 0, 1}, way); !ok || e != api.OK {
		t.Error(ok, e)
	}
	if ok, e := cones.CheckSplit(a, []int{-1, -1, 2}, split); !ok || e != api.OK {
		t.Error(ok, e)
	}
	if !same(way, [][]int{{0, 0, 2}, {1, 0, 1}}) || !same(split, [][]int{{-1, 0, 1}, {0, -1, 1}}) {
		t.Error(way, split)
	}
}
