package packets_test

import (
	"math"
	"slices"

	"comfit/api"
)

// dice is a row of numbers that look as if drawn by lot, the same in every run.
type dice struct{ at uint32 }

func (d *dice) from(low, high int) int {
	d.at = d.at*1664525 + 1013904223
	return low + int(d.at>>8)%(high-low+1)
}

// allWeights returns all weights of n kinds.
func allWeights(n int) [][]int {
	if n == 0 {
		return [][]int{nil}
	}
	var l [][]int
	for _, w := range allWeights(n - 1) {
		for weight := 1; weight <= 9; weight++ {
			l = append(l, append(slices.Clone(w), weight))
		}
	}
	return l
}

// risingWeights returns the weights of n kinds that never fall: those of all packets, but for the order of the kinds.
func risingWeights(n int) [][]int {
	if n == 0 {
		return [][]int{nil}
	}
	var l [][]int
	for _, w := range risingWeights(n - 1) {
		least := 1
		if n > 1 {
			least = w[n-2]
		}
		for weight := least; weight <= 9; weight++ {
			l = append(l, append(slices.Clone(w), weight))
		}
	}
	return l
}

// largeWeights returns weights of 6 kinds that lead to the largest numbers.
func largeWeights() [][]int {
	return [][]int{
		{6, 7, 7, 9, 9, 9}, {2, 6, 8, 9, 9, 9}, {4, 6, 7, 7, 8, 9}, {4, 6, 7, 8, 9, 9}, {9, 8, 4, 9, 7, 6}, {9, 2, 9, 6, 9, 8},
		{9, 9, 9, 9, 9, 9}, {1, 1, 1, 1, 1, 1}, {9, 8, 7, 6, 5, 4}, {1, 9, 9, 9, 9, 9}, {9, 1, 1, 1, 1, 1},
	}
}

// someWeights returns all weights of at most 2 kinds, and some of each number of more kinds.
func someWeights() [][]int {
	l := slices.Concat(allWeights(1), allWeights(2), largeWeights())
	d := &dice{1}
	for n := 3; n <= 6; n++ {
		for range 20 {
			var w []int
			for range n {
				w = append(w, d.from(1, 9))
			}
			l = append(l, w)
		}
	}
	return l
}

// fewWeights returns each fifth of someWeights.
func fewWeights() [][]int {
	var l [][]int
	for i, w := range someWeights() {
		if i%5 == 0 {
			l = append(l, w)
		}
	}
	return l
}

// badWeights returns slices that are no weights.
func badWeights() [][]int {
	return [][]int{
		nil,
		{},
		{0},
		{-1},
		{10},
		{math.MinInt},
		{math.MaxInt},
		{0, 1},
		{1, 0},
		{1, 10},
		{10, 9},
		{-9, 9},
		{1, -1, 1},
		{1, math.MaxInt, 1},
		{math.MinInt, 1, 1},
		{1, 1, 1, 1, 1, 0},
		{1, 1, 1, 1, 1, 10},
		{1, 1, 1, 1, 1, 1, 1},
		{1, 1, 1, 1, 1, 1, 0},
		slices.Repeat([]int{1}, 63),
		slices.Repeat([]int{1}, 64),
		slices.Repeat([]int{1}, 65),
		slices.Repeat([]int{9}, 1000),
	}
}

// badSets returns numbers that are no sets of n kinds.
func badSets(n int) []int {
	return []int{-1, -2, -1 << n, 1 << n, 1<<n + 1, 1 << 6, 1 << 62, math.MinInt, math.MinInt + 1, math.MaxInt}
}

// badKinds returns numbers that are none of n kinds.
func badKinds(n int) []int {
	return []int{-1, n, n + 1, 6, 31, 32, 62, 63, 64, 65, -64, math.MinInt, math.MaxInt, math.MinInt + 1}
}

// badNumbers returns numbers that are not from 0 to 8.
func badNumbers() []int {
	return []int{-1, 9, 10, -1000, 1000, math.MinInt, math.MaxInt}
}

func badChances() []api.Frac {
	return []api.Frac{
		{}, {Num: 1}, {Num: -1}, {Num: 0, Den: -1}, {Num: -1, Den: -1}, {Num: -1, Den: 1}, {Num: -1, Den: 2}, {Num: 1, Den: -2},
		{Num: 2, Den: 1}, {Num: 3, Den: 2}, {Num: 100, Den: 99}, {Num: 101, Den: 100},
		{Num: 0, Den: 2}, {Num: 0, Den: 100}, {Num: 2, Den: 2}, {Num: 2, Den: 4}, {Num: 100, Den: 100}, {Num: 50, Den: 100}, {Num: 6, Den: 9},
		{Num: 0, Den: 101}, {Num: 1, Den: 101}, {Num: 100, Den: 101}, {Num: 101, Den: 101}, {Num: 1, Den: 1000},
		{Num: 1, Den: math.MaxInt}, {Num: math.MaxInt, Den: math.MaxInt}, {Num: math.MaxInt, Den: 1}, {Num: 1, Den: math.MinInt},
		{Num: math.MinInt, Den: 1}, {Num: math.MinInt, Den: -1}, {Num: math.MinInt, Den: math.MinInt}, {Num: 0, Den: math.MinInt},
	}
}

// goodChances returns all chances whose Den is at most 100, rising.
func goodChances() []api.Frac {
	var l []api.Frac
	for den := 1; den <= 100; den++ {
		for num := range den + 1 {
			if f := fracOf(rat(num, den)); f.Den == den {
				l = append(l, f)
			}
		}
	}
	slices.SortFunc(l, func(f, g api.Frac) int { return f.Num*g.Den - g.Num*f.Den })
	return l
}

// parts returns all parts of a set.
func parts(set int) []int {
	var l []int
	for part := range set + 1 {
		if part&set == part {
			l = append(l, part)
		}
	}
	return l
}

// kinds returns the kinds of a set.
func kinds(set int) []int {
	var l []int
	for kind := range 6 {
		if set>>kind&1 == 1 {
			l = append(l, kind)
		}
	}
	return l
}
