package cones_test

import (
	"math"
	"slices"
)

// chance is a row of numbers that look as if drawn by lot, the same in every run.
type chance struct{ at uint32 }

func (c *chance) below(n int) int {
	c.at = c.at*1664525 + 1013904223
	return int(c.at>>8) % n
}

func (c *chance) vector(cols, low, high int) []int {
	l := make([]int, cols)
	for j := range l {
		l[j] = low + c.below(high-low+1)
	}
	return l
}

func (c *chance) matrix() [][]int {
	cols := 1 + c.below(4)
	var a [][]int
	for range 1 + c.below(2) {
		a = append(a, c.vector(cols, -2, 2))
	}
	return a
}

// rows returns all rows with so many columns.
func rows(cols int) [][]int {
	l := [][]int{nil}
	for range cols {
		var more [][]int
		for _, row := range l {
			for n := -2; n <= 2; n++ {
				more = append(more, append(slices.Clone(row), n))
			}
		}
		l = more
	}
	return l
}

// matrices returns all matrices with one row, all with two rows of at most two columns, some with two rows of more columns that have large basic moves or large families, and some drawn by lot.
func matrices() [][][]int {
	var l [][][]int
	for cols := 1; cols <= 4; cols++ {
		for _, row := range rows(cols) {
			l = append(l, [][]int{row})
		}
	}
	for cols := 1; cols <= 2; cols++ {
		for _, row := range rows(cols) {
			for _, other := range rows(cols) {
				l = append(l, [][]int{row, other})
			}
		}
	}
	l = append(l, special()...)
	c := &chance{1}
	for range 150 {
		l = append(l, [][]int{c.vector(3, -2, 2), c.vector(3, -2, 2)}, [][]int{c.vector(4, -2, 2), c.vector(4, -2, 2)})
	}
	return l
}

func special() [][][]int {
	return [][][]int{
		{{1, 1, -2}, {-1, -2, -2}},
		{{1, 1, -2, -2}, {-1, -2, -2, -2}},
		{{2, -2, 2, -1}, {-1, 1, -2, 2}},
		{{1, 2, -1, -2}, {2, -1, 1, -2}},
		{{1, -2, 0}, {0, 1, -2}},
		{{1, -2, 0, 0}, {0, 0, 1, -2}},
		{{1, -2, 0, 2}, {0, 1, -2, 2}},
		{{0, 0, 0, 0}, {0, 0, 0, 0}},
		{{1, 1, 1, 1}, {0, 1, 2, 2}},
		{{1, 1, 1, 1}, {2, 2, 2, 2}},
		{{1, -2, 1, 0}, {-1, 0, 2, 1}},
		{{-2, 1, 1, 2}, {2, -1, 1, 2}},
		{{1, 2, 2, 2}, {-2, 2, 1, 1}},
	}
}

// some returns a part of the matrices, for what takes long.
func some() [][][]int {
	l := special()
	for i, a := range matrices() {
		if i%7 == 0 {
			l = append(l, a)
		}
	}
	return l
}

func badMatrices() [][][]int {
	return [][][]int{
		nil,
		{},
		{nil},
		{{}},
		{nil, nil},
		{{}, {}},
		{{1}, {1}, {1}},
		{{0}, {0}, {0}, {0}},
		{{1, 1, 1, 1, 1}},
		{{0, 0, 0, 0, 0}, {0, 0, 0, 0, 0}},
		{{1, 1}, {1}},
		{{1}, {1, 1}},
		{{1}, nil},
		{nil, {1}},
		{{1, 1, 1, 1}, {1, 1, 1, 1, 1}},
		{{1, 1, 1, 1, 1}, {1, 1, 1, 1}},
		{{3}},
		{{-3}},
		{{1, 1, 1, 3}},
		{{1, 1}, {1, 3}},
		{{1, 1}, {-3, 1}},
		{{math.MaxInt}},
		{{math.MinInt, 0}},
		{{0, 0}, {0, math.MinInt}},
	}
}

// badVectors returns vectors that have not so many columns, or a number outside low to high.
func badVectors(cols, low, high int) [][]int {
	good := make([]int, cols)
	l := [][]int{nil, {}, make([]int, cols-1), make([]int, cols+1), make([]int, cols+5)}
	for j := range cols {
		for _, n := range []int{low - 1, high + 1, math.MinInt, math.MaxInt} {
			bad := slices.Clone(good)
			bad[j] = n
			l = append(l, bad)
		}
	}
	return l
}

func clone(l [][]int) [][]int {
	out := make([][]int, len(l))
	for i, x := range l {
		out[i] = slices.Clone(x)
	}
	return out
}

func same(l, k [][]int) bool { return slices.EqualFunc(l, k, slices.Equal) }

// pair returns two assortments, drawn by lot, that have the same product.
func (c *chance) pair(a [][]int) (x, y []int) {
	for {
		x, y = c.vector(len(a[0]), 0, 6), c.vector(len(a[0]), 0, 6)
		if slices.Equal(refTimes(a, x), refTimes(a, y)) {
			return x, y
		}
	}
}
