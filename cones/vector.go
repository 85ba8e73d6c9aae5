package cones

import (
	"slices"

	"comfit/api"
)

// vector has 0 in the columns that its matrix does not have, so that equal vectors are equal arrays and one key of a map.
type vector [api.MaxCols]int

// read returns the numbers of x, if there are cols of them, all from low to high.
func read(x []int, cols, low, high int) (vector, bool) {
	var v vector
	if len(x) != cols || cols > len(v) {
		return v, false
	}
	for _, n := range x {
		if n < low || n > high {
			return v, false
		}
	}
	copy(v[:], x)
	return v, true
}

func (v vector) compare(w vector) int { return slices.Compare(v[:], w[:]) }

// step returns v with n more in column j.
func (v vector) step(j, n int) vector {
	v[j] += n
	return v
}

func (v vector) plus(w vector) vector {
	for j, n := range w {
		v[j] += n
	}
	return v
}

func (v vector) minus(w vector) vector {
	for j, n := range w {
		v[j] -= n
	}
	return v
}

// dot returns the sum of the products of the numbers of v and w.
func (v vector) dot(w vector) int {
	sum := 0
	for j, n := range v {
		sum += n * w[j]
	}
	return sum
}

func (v vector) fits(w vector) bool {
	for j, n := range v {
		if n > 0 && n > w[j] || n < 0 && n < w[j] {
			return false
		}
	}
	return true
}

// whole reports whether v has no number below 0.
func (v vector) whole() bool {
	for _, n := range v {
		if n < 0 {
			return false
		}
	}
	return true
}
