package cones_test

import (
	"math"
	"slices"
	"testing"

	"comfit/api"
	"comfit/cones"
)

// P1.1
func TestTimes(t *testing.T) {
	for _, x := range []struct {
		a       [][]int
		x, want []int
	}{
		{[][]int{{1, 2}, {0, -1}}, []int{3, 4}, []int{11, -4}},
		{[][]int{{0}}, []int{7}, []int{0}},
		{[][]int{{2, 2, 2, 2}}, []int{1000, 1000, 1000, 1000}, []int{8000}},
		{[][]int{{2, 2, 2, 2}, {-2, -2, -2, -2}}, []int{-1000, -1000, -1000, -1000}, []int{-8000, 8000}},
		{[][]int{{1, -2, 2}, {0, 0, 0}}, []int{-1, 5, 100}, []int{189, 0}},
	} {
		if l, e := cones.Times(x.a, x.x); !slices.Equal(l, x.want) || e != api.OK {
			t.Error(x.a, x.x, l, e)
		}
	}
	c := &chance{2}
	for range 500 {
		a := c.matrix()
		x := c.vector(len(a[0]), -1000, 1000)
		if l, e := cones.Times(a, x); !slices.Equal(l, refTimes(a, x)) || e != api.OK {
			t.Error(a, x, l, e)
		}
	}
}

// P1.1
func TestTimesErrors(t *testing.T) {
	for _, a := range badMatrices() {
		for n := range 6 {
			if l, e := cones.Times(a, make([]int, n)); len(l) != 0 || e != api.ErrArg {
				t.Error(a, n, l, e)
			}
		}
	}
	for cols := 1; cols <= 4; cols++ {
		for _, x := range badVectors(cols, -1000, 1000) {
			if l, e := cones.Times([][]int{make([]int, cols)}, x); len(l) != 0 || e != api.ErrArg {
				t.Error(cols, x, l, e)
			}
		}
	}
}

// P1.1
func TestFits(t *testing.T) {
	for _, x := range []struct {
		x, y []int
		want bool
	}{
		{[]int{0}, []int{0}, true},
		{[]int{0}, []int{-5}, true},
		{[]int{1}, []int{0}, false},
		{[]int{-1}, []int{0}, false},
		{[]int{1}, []int{-1}, false},
		{[]int{-1}, []int{1}, false},
		{[]int{2}, []int{2}, true},
		{[]int{3}, []int{2}, false},
		{[]int{-2}, []int{-2}, true},
		{[]int{-3}, []int{-2}, false},
		{[]int{-3}, []int{-4}, true},
		{[]int{1, 0, -2}, []int{1, 5, -3}, true},
		{[]int{1, 0, -2, 1}, []int{1, 5, -3, 0}, false},
		{[]int{1000, -1000, 0, 1}, []int{1000, -1000, 1000, 1}, true},
	} {
		if ok, e := cones.Fits(x.x, x.y); ok != x.want || e != api.OK {
			t.Error(x.x, x.y, ok, e)
		}
	}
	c := &chance{3}
	for range 2000 {
		cols := 1 + c.below(4)
		x, y := c.vector(cols, -1, 1), c.vector(cols, -2, 2)
		if ok, e := cones.Fits(x, y); ok != refFits(x, y) || e != api.OK {
			t.Error(x, y, ok, e)
		}
	}
}

// P1.1
func TestFitsErrors(t *testing.T) {
	for cols := 1; cols <= 4; cols++ {
		good := make([]int, cols)
		for _, x := range badVectors(cols, -1000, 1000) {
			if ok, e := cones.Fits(x, good); ok || e != api.ErrArg {
				t.Error(x, good, ok, e)
			}
			if ok, e := cones.Fits(good, x); ok || e != api.ErrArg {
				t.Error(good, x, ok, e)
			}
		}
	}
	for _, n := range []int{0, 5, 6, 100} {
		if ok, e := cones.Fits(make([]int, n), make([]int, n)); ok || e != api.ErrArg {
			t.Error(n, ok, e)
		}
	}
	if ok, e := cones.Fits(nil, nil); ok || e != api.ErrArg {
		t.Error(ok, e)
	}
	// Numbers without an opposite, and none of another sign.
	if ok, e := cones.Fits([]int{math.MinInt}, []int{math.MinInt}); ok || e != api.ErrArg {
		t.Error(ok, e)
	}
}

// P1.2, Example 1
func TestBasicExamples(t *testing.T) {
	for _, x := range []struct{ a, basic, pure [][]int }{
		{[][]int{{1, -1}}, [][]int{{-1, -1}, {1, 1}}, [][]int{{1, 1}}},
		{
			[][]int{{1, 1, -2}},
			[][]int{{-2, 0, -1}, {-1, -1, -1}, {-1, 1, 0}, {0, -2, -1}, {0, 2, 1}, {1, -1, 0}, {1, 1, 1}, {2, 0, 1}},
			[][]int{{0, 2, 1}, {1, 1, 1}, {2, 0, 1}},
		},
		{[][]int{{0}}, [][]int{{-1}, {1}}, [][]int{{1}}},
		{[][]int{{2}}, nil, nil},
		{[][]int{{1, 1}, {1, -1}}, nil, nil},
		{[][]int{{1, 1}}, [][]int{{-1, 1}, {1, -1}}, nil},
		{[][]int{{0, 0}, {0, 0}}, [][]int{{-1, 0}, {0, -1}, {0, 1}, {1, 0}}, [][]int{{0, 1}, {1, 0}}},
		{[][]int{{2, -2}}, [][]int{{-1, -1}, {1, 1}}, [][]int{{1, 1}}},
		{[][]int{{1, -2, 0}, {0, 1, -2}}, [][]int{{-4, -2, -1}, {4, 2, 1}}, [][]int{{4, 2, 1}}},
		{[][]int{{1, 1, -2}, {-1, -2, -2}}, [][]int{{-6, 4, -1}, {6, -4, 1}}, nil},
	} {
		if l, e := cones.Basic(x.a); !same(l, x.basic) || e != api.OK {
			t.Error(x.a, l, e)
		}
		if l, e := cones.Pure(x.a); !same(l, x.pure) || e != api.OK {
			t.Error(x.a, l, e)
		}
	}
}

// P1.2
func TestBasicAndPure(t *testing.T) {
	for _, a := range matrices() {
		if l, e := cones.Basic(a); !same(l, refBasic(a)) || e != api.OK {
			t.Error(a, l, e)
		}
		if l, e := cones.Pure(a); !same(l, refPure(a)) || e != api.OK {
			t.Error(a, l, e)
		}
	}
}

// P1.2
func TestBasicErrors(t *testing.T) {
	for _, a := range badMatrices() {
		if l, e := cones.Basic(a); len(l) != 0 || e != api.ErrArg {
			t.Error(a, l, e)
		}
		if l, e := cones.Pure(a); len(l) != 0 || e != api.ErrArg {
			t.Error(a, l, e)
		}
	}
}

// drawMove returns a move with numbers from -100 to 100, drawn by lot.
func drawMove(c *chance, basic [][]int, cols int) []int {
	x := make([]int, cols)
	for range 1 + c.below(40) {
		if len(basic) == 0 {
			return x
		}
		y := plus(x, basic[c.below(len(basic))])
		if c.below(3) == 0 {
			y = plus(y, x)
		}
		if slices.Min(y) < -100 || slices.Max(y) > 100 {
			return x
		}
		x = y
	}
	return x
}

// P1.3, P1.7
func TestSplit(t *testing.T) {
	c := &chance{4}
	for _, a := range some() {
		basic := refBasic(a)
		for range 10 {
			x := drawMove(c, basic, len(a[0]))
			l, e := cones.Split(a, x)
			if !refIsSplit(basic, x, l) || e != api.OK {
				t.Error(a, x, l, e)
			}
			if ok, e := cones.CheckSplit(a, x, l); !ok || e != api.OK {
				t.Error(a, x, l, ok, e)
			}
		}
	}
}

// P1.3
func TestSplitEdges(t *testing.T) {
	for _, x := range []struct {
		a    [][]int
		x    []int
		want int // how many moves, as far as that is not free
	}{
		{[][]int{{0}}, []int{0}, 0},
		{[][]int{{1, 1, -2}}, []int{0, 0, 0}, 0},
		{[][]int{{2}}, []int{0}, 0},
		{[][]int{{0}}, []int{100}, 100},
		{[][]int{{0}}, []int{-100}, 100},
		{[][]int{{0, 0, 0, 0}}, []int{100, -100, 100, -100}, 400},
		{[][]int{{1, -1}}, []int{100, 100}, 100},
		{[][]int{{1, -1}}, []int{-100, -100}, 100},
		{[][]int{{1, -2, 0}, {0, 1, -2}}, []int{100, 50, 25}, 25},
		{[][]int{{1, 1, -2}}, []int{5, -1, 2}, 3},
	} {
		l, e := cones.Split(x.a, x.x)
		if !refIsSplit(refBasic(x.a), x.x, l) || len(l) != x.want || e != api.OK {
			t.Error(x.a, x.x, l, e)
		}
	}
}

// P1.3
func TestSplitErrors(t *testing.T) {
	for _, a := range badMatrices() {
		for n := range 6 {
			if l, e := cones.Split(a, make([]int, n)); len(l) != 0 || e != api.ErrArg {
				t.Error(a, n, l, e)
			}
			if ok, e := cones.CheckSplit(a, make([]int, n), nil); ok || e != api.ErrArg {
				t.Error(a, n, ok, e)
			}
		}
	}
	for cols := 1; cols <= 4; cols++ {
		for _, n := range []int{0, 1} { // everything, or nothing but 0, is a move
			a := [][]int{slices.Repeat([]int{n}, cols)}
			for _, x := range badVectors(cols, -100, 100) {
				if l, e := cones.Split(a, x); len(l) != 0 || e != api.ErrArg {
					t.Error(a, x, l, e)
				}
				if ok, e := cones.CheckSplit(a, x, nil); ok || e != api.ErrArg {
					t.Error(a, x, ok, e)
				}
				if ok, e := cones.CheckSplit(a, x, [][]int{x}); ok || e != api.ErrArg {
					t.Error(a, x, ok, e)
				}
			}
		}
	}
}

// P1.3
func TestSplitOfNoMove(t *testing.T) {
	c := &chance{5}
	for range 500 {
		a := c.matrix()
		x := c.vector(len(a[0]), -100, 100)
		if isZero(refTimes(a, x)) {
			continue
		}
		if l, e := cones.Split(a, x); len(l) != 0 || e != api.ErrNone {
			t.Error(a, x, l, e)
		}
		for _, l := range [][][]int{nil, {x}, refBasic(a)} {
			if ok, e := cones.CheckSplit(a, x, l); ok || e != api.OK {
				t.Error(a, x, l, ok, e)
			}
		}
	}
	// Only one of two rows gives 0.
	for _, a := range [][][]int{{{1, -1}, {1, 0}}, {{1, 0}, {1, -1}}} {
		if _, e := cones.Split(a, []int{1, 1}); e != api.ErrNone {
			t.Error(a, e)
		}
	}
}

// P1.3
func TestCheckSplitEdges(t *testing.T) {
	a := [][]int{{1, 1, -2}}
	for _, x := range []struct {
		x    []int
		l    [][]int
		want bool
	}{
		{[]int{0, 0, 0}, nil, true},
		{[]int{0, 0, 0}, [][]int{}, true},
		{[]int{0, 0, 0}, [][]int{{0, 0, 0}}, false},
		{[]int{0, 0, 0}, [][]int{{1, 1, 1}, {-1, -1, -1}}, false},
		{[]int{0, 0, 0}, [][]int{nil}, false},
		{[]int{1, 1, 1}, nil, false},
		{[]int{1, 1, 1}, [][]int{{1, 1, 1}}, true},
		{[]int{1, 1, 1}, [][]int{{1, 1, 1}, {0, 0, 0}}, false},
		{[]int{1, 1, 1}, [][]int{{1, 1}}, false},
		{[]int{1, 1, 1}, [][]int{{1, 1, 1, 0}}, false},
		{[]int{1, 1, 1}, [][]int{{1, 1, 1, 0, 0}}, false},
		{[]int{1, 1, 1}, [][]int{{1, 1, 1}, nil}, false},
		{[]int{1, 1, 1}, [][]int{{1, 1, 1}, {1, 1, 1}}, false},
		{[]int{1, 1, 1}, [][]int{{-1, -1, -1}}, false},
		{[]int{1, 1, 1}, [][]int{{2, 0, 1}, {-1, 1, 0}}, false},
		{[]int{1, 1, 1}, [][]int{{1, 1, 1}, {1, -1, 0}, {-1, 1, 0}}, false},
		{[]int{2, 2, 2}, [][]int{{2, 2, 2}}, false},
		{[]int{2, 2, 2}, [][]int{{1, 1, 1}, {1, 1, 1}}, true},
		{[]int{2, 2, 2}, [][]int{{2, 0, 1}, {0, 2, 1}}, true},
		{[]int{2, 2, 2}, [][]int{{0, 2, 1}, {2, 0, 1}}, true},
		{[]int{2, 2, 2}, [][]int{{1, 1, 1}}, false},
		{[]int{2, 2, 2}, [][]int{{1, 1, 1}, {1, 0, 0}, {0, 1, 1}}, false},
		{[]int{5, -1, 2}, [][]int{{2, 0, 1}, {2, 0, 1}, {1, -1, 0}}, true},
		{[]int{5, -1, 2}, [][]int{{1, -1, 0}, {2, 0, 1}, {2, 0, 1}}, true},
		{[]int{-5, 1, -2}, [][]int{{-1, 1, 0}, {-2, 0, -1}, {-2, 0, -1}}, true},
		{[]int{1, 1, 1}, [][]int{{math.MaxInt, math.MaxInt, math.MaxInt}}, false},
		{[]int{0, 0, 0}, [][]int{{math.MinInt, math.MinInt, math.MinInt}, {math.MinInt, math.MinInt, math.MinInt}}, false},
	} {
		if ok, e := cones.CheckSplit(a, x.x, x.l); ok != x.want || e != api.OK {
			t.Error(x.x, x.l, ok, e)
		}
	}
}

// P1.3
func TestCheckSplitOfChangedSplits(t *testing.T) {
	c := &chance{6}
	for _, a := range some() {
		basic := refBasic(a)
		for range 10 {
			x := drawMove(c, basic, len(a[0]))
			good, _ := cones.Split(a, x)
			l := changed(c, clone(good), basic, len(a[0]))
			if ok, e := cones.CheckSplit(a, x, l); ok != refIsSplit(basic, x, l) || e != api.OK {
				t.Error(a, x, l, ok, e)
			}
		}
	}
}

// changed returns l with a change drawn by lot; what comes of it may be as good as l.
func changed(c *chance, l, basic [][]int, cols int) [][]int {
	if len(l) == 0 || len(basic) == 0 {
		return append(l, make([]int, cols))
	}
	i := c.below(len(l))
	move := basic[c.below(len(basic))]
	switch c.below(8) {
	case 0:
		return slices.Delete(l, i, i+1)
	case 1:
		return slices.Insert(l, i, l[i])
	case 2:
		l[i] = move
	case 3:
		l[i] = plus(l[i], move)
		return append(l, minus(make([]int, cols), move))
	case 4:
		last := l[len(l)-1]
		if len(l) > 1 {
			l[i], l = plus(l[i], last), l[:len(l)-1]
		}
	case 5:
		slices.Reverse(l)
	case 6:
		l[i] = append(l[i], 0)
	case 7:
		l[i][c.below(cols)]++
	}
	return l
}
