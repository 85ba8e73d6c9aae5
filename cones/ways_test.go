package cones_test

import (
	"math"
	"slices"
	"testing"

	"comfit/api"
	"comfit/cones"
)

// checkWay holds Way's result against the fewest vectors that a way may have.
func checkWay(t *testing.T, a [][]int, x, y []int, fewest int) {
	t.Helper()
	l, e := cones.Way(a, x, y)
	if !refIsWay(refBasic(a), x, y, l) || len(l) != fewest || e != api.OK {
		t.Error(a, x, y, l, e)
	}
	if ok, e := cones.CheckWay(a, x, y, l); !ok || e != api.OK {
		t.Error(a, x, y, l, ok, e)
	}
}

// P1.6
func TestWayExamples(t *testing.T) {
	for _, x := range []struct {
		a      [][]int
		x, y   []int
		fewest int
	}{
		{[][]int{{1, 1, 1}}, []int{2, 0, 0}, []int{0, 1, 1}, 3},
		{[][]int{{1, 1, 1}}, []int{2, 0, 0}, []int{2, 0, 0}, 1},
		{[][]int{{1, 1}, {1, -1}}, []int{4, 5}, []int{4, 5}, 1},
		{[][]int{{1, 1, 1, 1}}, []int{6, 6, 0, 0}, []int{0, 0, 6, 6}, 13},
		// Families without an end.
		{[][]int{{0}}, []int{0}, []int{6}, 7},
		{[][]int{{0}}, []int{6}, []int{0}, 7},
		{[][]int{{0}, {0}}, []int{3}, []int{3}, 1},
		{[][]int{{1, -1}}, []int{0, 0}, []int{6, 6}, 7},
		{[][]int{{1, -1}}, []int{6, 6}, []int{0, 0}, 7},
		{[][]int{{1, -2, 0}, {0, 1, -2}}, []int{0, 0, 0}, []int{4, 2, 1}, 2},
		{[][]int{{0, 0, 0, 0}}, []int{0, 0, 0, 0}, []int{6, 6, 6, 6}, 25},
		{[][]int{{0, 0, 0, 0}}, []int{6, 0, 6, 0}, []int{0, 6, 0, 6}, 25},
		// Not every way by basic moves that fit is a shortest one.
		{[][]int{{1, -1, 2, 2}}, []int{0, 2, 5, 2}, []int{2, 4, 4, 3}, 3},
		{[][]int{{-2, 2, 1, -1}}, []int{1, 5, 2, 6}, []int{3, 6, 0, 2}, 4},
		{[][]int{{2, 1, 2, -1}}, []int{3, 0, 3, 0}, []int{6, 4, 1, 6}, 6},
		// The shortest ways are not by moves that fit.
		{[][]int{{-1, 1, 1, 0}, {-1, -2, -1, -1}}, []int{0, 3, 3, 4}, []int{0, 6, 0, 1}, 3},
		{[][]int{{2, -1, -2, 0}, {-1, -1, 0, 1}}, []int{2, 0, 2, 3}, []int{5, 0, 5, 6}, 3},
		// They go over vectors that are no assortments.
		{[][]int{{1, -1, 2, 1}, {0, -1, -2, 0}}, []int{3, 6, 6, 6}, []int{6, 6, 6, 3}, 3},
		{[][]int{{-1, 1, 1, 2}, {-2, -2, 2, 1}}, []int{6, 6, 6, 3}, []int{0, 6, 0, 3}, 4},
		{[][]int{{-2, -1, 2, -2}, {2, -2, -1, 1}}, []int{4, 6, 6, 6}, []int{4, 6, 0, 0}, 3},
	} {
		checkWay(t, x.a, x.x, x.y, x.fewest)
	}
}

// P1.6
func TestWays(t *testing.T) {
	c := &chance{10}
	for _, a := range some() {
		if isZero(slices.Concat(a...)) {
			continue
		}
		basic := refBasic(a)
		for range 4 {
			x, y := c.pair(a)
			fewest := refWay(basic, x, y, 9)
			if fewest > 0 { // the others take long to count
				checkWay(t, a, x, y, fewest)
			}
		}
	}
}

// P1.6
func TestWayBetweenFamilies(t *testing.T) {
	c := &chance{11}
	for range 500 {
		a := c.matrix()
		x, y := c.vector(len(a[0]), 0, 6), c.vector(len(a[0]), 0, 6)
		if slices.Equal(refTimes(a, x), refTimes(a, y)) {
			continue
		}
		if l, e := cones.Way(a, x, y); len(l) != 0 || e != api.ErrNone {
			t.Error(a, x, y, l, e)
		}
		for _, l := range [][][]int{nil, {x}, {y}, {x, y}} {
			if ok, e := cones.CheckWay(a, x, y, l); ok || e != api.OK {
				t.Error(a, x, y, l, ok, e)
			}
		}
	}
	// Only one of two rows has the same product.
	for _, a := range [][][]int{{{1, 1}, {1, 0}}, {{1, 0}, {1, 1}}} {
		if l, e := cones.Way(a, []int{1, 0}, []int{0, 1}); len(l) != 0 || e != api.ErrNone {
			t.Error(a, l, e)
		}
	}
}

// P1.6
func TestWayErrors(t *testing.T) {
	check := func(a [][]int, x, y []int) {
		if l, e := cones.Way(a, x, y); len(l) != 0 || e != api.ErrArg {
			t.Error(a, x, y, l, e)
		}
		if ok, e := cones.CheckWay(a, x, y, [][]int{x}); ok || e != api.ErrArg {
			t.Error(a, x, y, ok, e)
		}
		if ok, e := cones.CheckWay(a, x, y, nil); ok || e != api.ErrArg {
			t.Error(a, x, y, ok, e)
		}
	}
	for _, a := range badMatrices() {
		for n := range 6 {
			check(a, make([]int, n), make([]int, n))
		}
	}
	for cols := 1; cols <= 4; cols++ {
		good := make([]int, cols)
		for _, n := range []int{0, 1} { // all assortments are of one family, or few
			a := [][]int{slices.Repeat([]int{n}, cols)}
			for _, x := range badVectors(cols, 0, 6) {
				check(a, x, good)
				check(a, good, x)
				check(a, x, x)
			}
		}
	}
}

// P1.6
func TestCheckWayEdges(t *testing.T) {
	line, pair := [][]int{{1, 1, 1}}, [][]int{{1, -1}}
	for _, x := range []struct {
		a    [][]int
		x, y []int
		l    [][]int
		want bool
	}{
		{line, []int{2, 0, 0}, []int{2, 0, 0}, nil, false},
		{line, []int{2, 0, 0}, []int{2, 0, 0}, [][]int{{2, 0, 0}}, true},
		{line, []int{2, 0, 0}, []int{2, 0, 0}, [][]int{{2, 0, 0}, {2, 0, 0}}, false},
		{line, []int{2, 0, 0}, []int{2, 0, 0}, [][]int{{2, 0, 0}, {1, 1, 0}, {2, 0, 0}}, true},
		{line, []int{2, 0, 0}, []int{1, 1, 0}, [][]int{{2, 0, 0}, {1, 1, 0}}, true},
		{line, []int{2, 0, 0}, []int{1, 1, 0}, [][]int{{1, 1, 0}, {2, 0, 0}}, false},
		{line, []int{2, 0, 0}, []int{1, 1, 0}, [][]int{{2, 0, 0}}, false},
		{line, []int{2, 0, 0}, []int{1, 1, 0}, [][]int{{1, 1, 0}}, false},
		{line, []int{2, 0, 0}, []int{1, 1, 0}, [][]int{{2, 0, 0}, {1, 0, 1}, {1, 1, 0}}, true},
		{line, []int{2, 0, 0}, []int{0, 1, 1}, [][]int{{2, 0, 0}, {0, 1, 1}}, false},
		{line, []int{2, 0, 0}, []int{0, 2, 0}, [][]int{{2, 0, 0}, {0, 2, 0}}, false},
		{line, []int{1, 0, 0}, []int{0, 1, 0}, [][]int{{1, 0, 0}, {1, 1, -1}, {0, 1, 0}}, false},
		{line, []int{1, 0, 0}, []int{0, 1, 0}, [][]int{{1, 0, 0}, {0, 1}}, false},
		{line, []int{1, 0, 0}, []int{0, 1, 0}, [][]int{{1, 0, 0}, {0, 1, 0, 0}}, false},
		{line, []int{1, 0, 0}, []int{0, 1, 0}, [][]int{{1, 0, 0, 0}, {0, 1, 0}}, false},
		{line, []int{1, 0, 0}, []int{0, 1, 0}, [][]int{{1, 0, 0}, nil, {0, 1, 0}}, false},
		{line, []int{1, 0, 0}, []int{0, 1, 0}, [][]int{{1, 0, 0}, {0, 0, 1}, {0, 1, 0}, {0, 0, 1}}, false},
		{line, []int{1, 0, 0}, []int{0, 1, 0}, [][]int{{0, 0, 1}, {1, 0, 0}, {0, 1, 0}}, false},
		// No move, as it leaves the family.
		{line, []int{1, 0, 0}, []int{2, 0, 0}, [][]int{{1, 0, 0}, {2, 0, 0}}, false},
		// Over vectors that are no assortments.
		{pair, []int{6, 6}, []int{6, 6}, [][]int{{6, 6}, {7, 7}, {8, 8}, {7, 7}, {6, 6}}, true},
		{pair, []int{0, 0}, []int{0, 0}, [][]int{{0, 0}, {-1, -1}, {0, 0}}, false},
		{pair, []int{0, 0}, []int{0, 0}, [][]int{{0, 0}, {math.MinInt, math.MinInt}, {0, 0}}, false},
		{pair, []int{0, 0}, []int{1, 1}, [][]int{{0, 0}, {math.MaxInt, math.MaxInt}, {math.MinInt, math.MinInt}, {1, 1}}, false},
		{pair, []int{0, 0}, []int{2, 2}, [][]int{{0, 0}, {2, 2}}, false},
	} {
		if ok, e := cones.CheckWay(x.a, x.x, x.y, x.l); ok != x.want || e != api.OK {
			t.Error(x.a, x.x, x.y, x.l, ok, e)
		}
	}
}

// P1.6: a way may be long, and go far.
func TestCheckWayOfLongWay(t *testing.T) {
	var l [][]int
	for n := range 2000 {
		l = append(l, []int{n, n})
	}
	back := clone(l)
	slices.Reverse(back)
	l = append(l, back[1:]...)
	if ok, e := cones.CheckWay([][]int{{1, -1}}, []int{0, 0}, []int{0, 0}, l); !ok || e != api.OK {
		t.Error(ok, e)
	}
	l[1500] = []int{1500, 1501}
	if ok, e := cones.CheckWay([][]int{{1, -1}}, []int{0, 0}, []int{0, 0}, l); ok || e != api.OK {
		t.Error(ok, e)
	}
}

// P1.6
func TestCheckWayOfChangedWays(t *testing.T) {
	c := &chance{12}
	for _, a := range some() {
		if isZero(slices.Concat(a...)) {
			continue
		}
		basic := refBasic(a)
		for range 6 {
			x, y := c.pair(a)
			good, _ := cones.Way(a, x, y)
			l := changed(c, clone(good), basic, len(a[0]))
			if ok, e := cones.CheckWay(a, x, y, l); ok != refIsWay(basic, x, y, l) || e != api.OK {
				t.Error(a, x, y, l, ok, e)
			}
		}
	}
}
