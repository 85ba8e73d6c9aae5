package cones_test

import (
	"math"
	"slices"
	"testing"

	"comfit/api"
	"comfit/cones"
)

// P1.4, Example 2
func TestFamilyExamples(t *testing.T) {
	for _, x := range []struct {
		a    [][]int
		x    []int
		want [][]int
	}{
		{[][]int{{1, 1, 1}}, []int{0, 1, 0}, [][]int{{0, 0, 1}, {0, 1, 0}, {1, 0, 0}}},
		{[][]int{{1, 1, 1}}, []int{1, 1, 0}, [][]int{{0, 0, 2}, {0, 1, 1}, {0, 2, 0}, {1, 0, 1}, {1, 1, 0}, {2, 0, 0}}},
		{[][]int{{1, 2}}, []int{6, 0}, [][]int{{0, 3}, {2, 2}, {4, 1}, {6, 0}}},
		{[][]int{{-1, -2}}, []int{0, 6}, [][]int{{0, 6}, {2, 5}, {4, 4}, {6, 3}, {8, 2}, {10, 1}, {12, 0}}},
		{[][]int{{2}}, []int{6}, [][]int{{6}}},
		{[][]int{{1, 1}, {0, 1}}, []int{3, 4}, [][]int{{3, 4}}},
		{[][]int{{1, 1, 1, 1}}, []int{0, 0, 0, 0}, [][]int{{0, 0, 0, 0}}},
	} {
		if l, e := cones.Family(x.a, x.x); !same(l, x.want) || e != api.OK {
			t.Error(x.a, x.x, l, e)
		}
		if n, e := cones.Count(x.a, x.x); n != len(x.want) || e != api.OK {
			t.Error(x.a, x.x, n, e)
		}
	}
	if n, e := cones.Count([][]int{{1, 1, 1, 1}}, []int{6, 6, 6, 6}); n != 2925 || e != api.OK {
		t.Error(n, e)
	}
}

// P1.4, P1.5, P1.8
func TestFamilies(t *testing.T) {
	c := &chance{7}
	for i, a := range some() {
		cols := len(a[0])
		for _, x := range [][]int{make([]int, cols), c.vector(cols, 0, 6), c.vector(cols, 0, 2), slices.Repeat([]int{6}, cols)} {
			if i%5 > 0 && norm(x) > 14 { // to save time
				continue
			}
			want, ok := refFamily(a, x)
			if !ok {
				continue
			}
			l, e := cones.Family(a, x)
			if !same(l, want) || e != api.OK {
				t.Error(a, x, len(l), e)
			}
			if !isOneOf(l, x) {
				t.Error(a, x, "not in its family")
			}
			if n, e := cones.Count(a, x); n != len(want) || e != api.OK {
				t.Error(a, x, n, e)
			}
			for range 3 {
				prices := c.vector(cols, -9, 9)
				if n, e := cones.Best(a, x, prices); n != refBest(want, prices) || e != api.OK {
					t.Error(a, x, prices, n, e)
				}
			}
		}
	}
}

// P1.4, P1.5
func TestFamiliesWithoutEnd(t *testing.T) {
	c := &chance{8}
	for _, a := range matrices() {
		cols := len(a[0])
		pure := refPure(a)
		if _, ok := refWeights(a); ok != (len(pure) == 0) {
			t.Fatal(a, "has pure moves, or weights, but not both")
		}
		x, prices := c.vector(cols, 0, 6), c.vector(cols, -9, 9)
		want := api.OK
		if len(pure) > 0 {
			want = api.ErrState
		}
		l, e := cones.Family(a, x)
		if e != want || e != api.OK && len(l) != 0 {
			t.Error(a, x, l, e)
		}
		n, e := cones.Count(a, x)
		if e != want || e != api.OK && n != 0 {
			t.Error(a, x, n, e)
		}
		n, e = cones.Best(a, x, prices)
		if e != want || e != api.OK && n != 0 {
			t.Error(a, x, prices, n, e)
		}
		y, e := cones.Step(a, x, prices)
		if (e == api.ErrState) != (want == api.ErrState) || e != api.OK && len(y) != 0 {
			t.Error(a, x, prices, y, e)
		}
	}
}

// P1.4
func TestFamilyErrors(t *testing.T) {
	check := func(a [][]int, x []int) {
		if l, e := cones.Family(a, x); len(l) != 0 || e != api.ErrArg {
			t.Error(a, x, l, e)
		}
		if n, e := cones.Count(a, x); n != 0 || e != api.ErrArg {
			t.Error(a, x, n, e)
		}
	}
	for _, a := range badMatrices() {
		for n := range 6 {
			check(a, make([]int, n))
		}
	}
	for cols := 1; cols <= 4; cols++ {
		for _, n := range []int{0, 1} { // with pure moves, and without
			for _, x := range badVectors(cols, 0, 6) {
				check([][]int{slices.Repeat([]int{n}, cols)}, x)
			}
		}
	}
}

// P1.5, Example 2
func TestBestExamples(t *testing.T) {
	for _, x := range []struct {
		a         [][]int
		x, prices []int
		want      int
	}{
		{[][]int{{1, 1, 1}}, []int{1, 1, 0}, []int{1, 2, 3}, 2},
		{[][]int{{1, 1, 1}}, []int{1, 1, 0}, []int{-1, -2, -9}, -18},
		{[][]int{{1, 1, 1}}, []int{0, 0, 0}, []int{9, 9, 9}, 0},
		{[][]int{{1, 1, 1, 1}}, []int{6, 6, 6, 6}, []int{9, 9, 9, 9}, 216},
		{[][]int{{1, 2}}, []int{6, 6}, []int{-9, 0}, -162},
		{[][]int{{1, 2}}, []int{1, 0}, []int{5, -9}, 5},
		{[][]int{{1}}, []int{6}, []int{-9}, -54},
		{[][]int{{1, 2}}, []int{5, 0}, []int{0, 0}, 0},
	} {
		if n, e := cones.Best(x.a, x.x, x.prices); n != x.want || e != api.OK {
			t.Error(x.a, x.x, x.prices, n, e)
		}
	}
}

// P1.5
func TestStepExamples(t *testing.T) {
	for _, x := range []struct {
		a               [][]int
		x, prices, want []int
	}{
		{[][]int{{1, 1, 1}}, []int{0, 0, 2}, []int{1, 2, 3}, []int{1, 0, 1}},
		{[][]int{{1, 1, 1}}, []int{2, 0, 0}, []int{1, 2, 3}, nil},
		// Of two that are as good, the first one.
		{[][]int{{1, 1, 1}}, []int{0, 0, 2}, []int{1, 1, 3}, []int{0, 1, 1}},
		{[][]int{{1, 1, 1}}, []int{2, 0, 0}, []int{3, 1, 1}, []int{1, 0, 1}},
		// What is as good as x is no step.
		{[][]int{{1, 1, 1}}, []int{0, 0, 2}, []int{3, 3, 3}, nil},
		{[][]int{{1, 1}}, []int{0, 0}, []int{-9, 9}, nil},
		{[][]int{{1, 1}}, []int{1000, 0}, []int{9, 8}, []int{999, 1}},
		// A result may have numbers above 1000.
		{[][]int{{1, 2}}, []int{1000, 1000}, []int{-1, 0}, []int{1002, 999}},
		{[][]int{{1, 2}}, []int{1, 1000}, []int{0, -9}, nil},
		{[][]int{{1, 2}}, []int{2, 1000}, []int{0, -9}, []int{0, 1001}},
		// It goes as far as the best basic move, and no basic move is made twice.
		{[][]int{{1, 2, 2}}, []int{6, 0, 0}, []int{9, 0, -1}, []int{4, 0, 1}},
		{[][]int{{1, 1, -2}, {-1, -2, -2}}, []int{0, 3, 0}, []int{-1, 0, 0}, nil},
		{[][]int{{1, 1, -2}, {-1, -2, -2}}, []int{0, 8, 0}, []int{-1, 0, 0}, []int{6, 4, 1}},
	} {
		l, e := cones.Step(x.a, x.x, x.prices)
		if !slices.Equal(l, x.want) || (e == api.ErrNone) != (x.want == nil) || e != api.OK && e != api.ErrNone {
			t.Error(x.a, x.x, x.prices, l, e)
		}
	}
}

// P1.5
func TestSteps(t *testing.T) {
	c := &chance{9}
	for _, a := range matrices() {
		if _, ok := refWeights(a); !ok {
			continue
		}
		cols := len(a[0])
		basic := refBasic(a)
		for i := range 6 {
			x := c.vector(cols, 0, []int{1, 3, 6, 1000}[i%4])
			prices := c.vector(cols, -9, 9)
			if i > 3 { // to have some that are as good
				prices = c.vector(cols, -1, 1)
			}
			want, wantE := refStep(basic, x, prices), api.OK
			if want == nil {
				wantE = api.ErrNone
			}
			if l, e := cones.Step(a, x, prices); !slices.Equal(l, want) || e != wantE {
				t.Error(a, x, prices, l, e)
			}
		}
	}
}

// P1.5: ErrState comes before ErrNone.
func TestStepWithoutEnd(t *testing.T) {
	for _, prices := range [][]int{{0, 0}, {1, 1}, {-1, -1}} {
		if l, e := cones.Step([][]int{{1, -1}}, []int{0, 0}, prices); len(l) != 0 || e != api.ErrState {
			t.Error(prices, l, e)
		}
	}
}

// P1.5
func TestBestErrors(t *testing.T) {
	best := func(a [][]int, x, prices []int) {
		if n, e := cones.Best(a, x, prices); n != 0 || e != api.ErrArg {
			t.Error(a, x, prices, n, e)
		}
	}
	step := func(a [][]int, x, prices []int) {
		if l, e := cones.Step(a, x, prices); len(l) != 0 || e != api.ErrArg {
			t.Error(a, x, prices, l, e)
		}
	}
	for _, a := range badMatrices() {
		for n := range 6 {
			best(a, make([]int, n), make([]int, n))
			step(a, make([]int, n), make([]int, n))
		}
	}
	for cols := 1; cols <= 4; cols++ {
		good := make([]int, cols)
		for _, n := range []int{0, 1} { // with pure moves, and without
			a := [][]int{slices.Repeat([]int{n}, cols)}
			for _, x := range badVectors(cols, 0, 6) {
				best(a, x, good)
				best(a, x, x)
			}
			for _, x := range badVectors(cols, 0, 1000) {
				step(a, x, good)
				step(a, x, x)
			}
			for _, prices := range badVectors(cols, -9, 9) {
				best(a, good, prices)
				step(a, good, prices)
			}
		}
	}
	// The bounds of both differ.
	if _, e := cones.Step([][]int{{1}}, []int{7}, []int{0}); e != api.ErrNone {
		t.Error(e)
	}
	best([][]int{{1}}, []int{7}, []int{0})
	best([][]int{{1}}, []int{math.MaxInt}, []int{0})
}
