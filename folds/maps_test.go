package folds_test

import (
	"math"
	"testing"

	"comfit/api"
	"comfit/folds"
)

// P3.6
func TestMapExamples(t *testing.T) {
	for _, x := range []struct {
		n    int
		pile []int
		want bool
	}{
		{1, []int{0, 1}, true},
		{1, []int{1, 0}, true},
		{2, []int{0, 1, 3, 2}, true},
		{2, []int{0, 1, 2, 3}, false}, // front: 0 2 and 1 3
		{2, []int{0, 3, 1, 2}, false}, // left: 0 1 and 3 2
		{2, []int{0, 2, 3, 1}, true},
		{2, []int{0, 2, 1, 3}, false}, // left: 0 1 and 2 3
		{3, []int{0, 1, 2, 5, 4, 3}, true},
		{3, []int{0, 3, 4, 1, 2, 5}, true},
		{3, []int{0, 3, 4, 1, 5, 2}, false},       // right: 4 5 and 1 2
		{4, []int{0, 1, 2, 3, 7, 6, 5, 4}, true},  // back and forth, then the rows together
		{4, []int{0, 1, 2, 3, 4, 5, 6, 7}, false}, // front
		{4, []int{0, 4, 5, 1, 2, 6, 7, 3}, true},  // the rows together, then back and forth
		{4, []int{0, 4, 5, 1, 2, 6, 3, 7}, false}, // left: 2 3 and 6 7
	} {
		if ok, e := folds.Map(x.n, x.pile); ok != x.want || e != api.OK {
			t.Error(x.n, x.pile, ok, e)
		}
	}
}

// P3.6, P3.8
func TestMaps(t *testing.T) {
	for n := 1; n <= 4; n++ {
		all := 0
		for _, pile := range orders(2 * n) {
			want := refPossible(pile, refMap(n))
			if ok, e := folds.Map(n, pile); ok != want || e != api.OK {
				t.Error(n, pile, ok, e)
			}
			if want {
				all++
			}
		}
		if all != []int{2, 8, 60, 320}[n-1] {
			t.Error(n, all)
		}
		if n == 4 {
			continue
		}
		if c, e := folds.Maps(n); c != all || e != api.OK {
			t.Error(n, c, e)
		}
	}
}

// P3.6: a pile of a map has all its leaves, each once.
func TestMapErrors(t *testing.T) {
	check := func(n int, pile []int) {
		if ok, e := folds.Map(n, pile); ok || e != api.ErrArg {
			t.Error(n, pile, ok, e)
		}
	}
	columns := append(outside(1, 4), 2, 3, 1<<62, 1<<62+1, math.MinInt/2, math.MaxInt/2+1)
	for n := range 6 {
		for _, pile := range badPiles() {
			check(n, pile)
		}
	}
	for length := range 12 {
		pile := make([]int, length)
		for i := range pile {
			pile[i] = i
		}
		for _, n := range append(columns, 1, 4) {
			if n < 1 || n > 4 || length != 2*n {
				check(n, pile)
			}
		}
	}
	for _, n := range append(outside(1, 3), 5) {
		if c, e := folds.Maps(n); c != 0 || e != api.ErrArg {
			t.Error(n, c, e)
		}
	}
}
