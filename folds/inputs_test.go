package folds_test

import (
	"math"
	"slices"
)

// orders returns all orders of n leaves, rising.
func orders(n int) [][]int {
	if n == 0 {
		return [][]int{nil}
	}
	var l [][]int
	for _, p := range orders(n - 1) {
		for at := range n {
			l = append(l, slices.Insert(slices.Clone(p), at, n-1))
		}
	}
	slices.SortFunc(l, slices.Compare)
	return l
}

// strips returns all piles of all strips, possible or not.
func strips() [][]int {
	var l [][]int
	for n := 1; n <= 7; n++ {
		l = append(l, orders(n)...)
	}
	return l
}

// possible returns all possible piles of all strips.
func possible() [][]int {
	var l [][]int
	for n := 1; n <= 7; n++ {
		l = append(l, refList(n)...)
	}
	return l
}

// badPiles returns slices that are no order of their leaves, or of more leaves than a strip or a map has.
func badPiles() [][]int {
	nine := make([]int, 9)
	for i := range nine {
		nine[i] = i
	}
	return [][]int{
		nil,
		{},
		{1},
		{-1},
		{math.MinInt},
		{math.MaxInt},
		{0, 0},
		{1, 1},
		{1, 2},
		{0, 2},
		{-1, 0},
		{0, 1, 1},
		{0, 1, 3},
		{0, 2, 1, 1},
		{0, 2, 1, 4},
		{0, 2, -1, 3},
		{0, math.MaxInt, 1, 3},
		{0, math.MinInt, 1, 3},
		{0, 1, 2, 3, 4, 5, 7},
		{1, 2, 3, 4, 5, 6, 7},
		{0, 1, 2, 3, 4, 5, 5},
		{0, 1, 2, 3, 4, 5, 6, 8},
		{0, 1, 2, 3, 4, 5, 6, 6},
		{0, 1, 2, 3, 4, 5, 6, 0},
		nine,
		slices.Repeat([]int{0}, 1000),
	}
}

// badStrips returns slices that are no piles of a strip; the last ones have too many leaves.
func badStrips() [][]int {
	return append(badPiles(), []int{0, 1, 2, 3, 4, 5, 6, 7}, []int{7, 6, 5, 4, 3, 2, 1, 0})
}

// outside returns numbers that are not from low to high.
func outside(low, high int) []int {
	return []int{low - 1, high + 1, low - 1000, high + 1000, math.MinInt, math.MaxInt}
}

func same(a, b [][]int) bool {
	return slices.EqualFunc(a, b, slices.Equal)
}
