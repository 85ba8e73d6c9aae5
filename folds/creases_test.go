package folds_test

import (
	"math"
	"slices"
	"testing"

	"comfit/api"
	"comfit/folds"
)

// P3.3, Example 2
func TestCreasesExamples(t *testing.T) {
	for _, x := range []struct {
		pile []int
		want int
		e    api.Errno
	}{
		{[]int{0}, 0, api.OK},
		{[]int{0, 1}, 1, api.OK},
		{[]int{1, 0}, 0, api.OK},
		{[]int{0, 1, 2}, 1, api.OK},
		{[]int{0, 2, 1}, 3, api.OK},
		{[]int{1, 0, 2}, 0, api.OK},
		{[]int{1, 2, 0}, 0, api.OK},
		{[]int{2, 0, 1}, 3, api.OK},
		{[]int{2, 1, 0}, 2, api.OK},
		{[]int{0, 1, 2, 3, 4, 5, 6}, 21, api.OK},
		{[]int{6, 5, 4, 3, 2, 1, 0}, 42, api.OK},
		{[]int{0, 2, 4, 6, 5, 3, 1}, 63, api.OK},
		{[]int{0, 2, 1, 3}, 0, api.ErrState},
		{[]int{0, 1, 3, 2, 4}, 0, api.ErrState},
	} {
		if set, e := folds.Creases(x.pile); set != x.want || e != x.e {
			t.Error(x.pile, set, e)
		}
	}
}

// P3.3, P3.5
func TestCreasesAndOpen(t *testing.T) {
	for _, pile := range strips() {
		n := len(pile)
		wantSet, wantOpen, want := 0, []int(nil), api.ErrState
		if refPossible(pile, refStrip(n)) {
			wantSet, want = refMountains(pile), api.OK
			wantOpen = slices.DeleteFunc(slices.Clone(pile), func(x int) bool { return x == n-1 })
		}
		if set, e := folds.Creases(pile); set != wantSet || e != want {
			t.Error(pile, set, e)
		}
		if n == 1 {
			continue
		}
		if l, e := folds.Open(pile); !slices.Equal(l, wantOpen) || e != want {
			t.Error(pile, l, e)
		}
	}
}

// P3.3, Example 2
func TestFoldExamples(t *testing.T) {
	for _, x := range []struct {
		n, mountains int
		want         []int
		number       int
	}{
		{1, 0, []int{0}, 1},
		{2, 0, []int{1, 0}, 1},
		{2, 1, []int{0, 1}, 1},
		{3, 0, []int{1, 0, 2}, 2},
		{3, 1, []int{0, 1, 2}, 1},
		{3, 2, []int{2, 1, 0}, 1},
		{3, 3, []int{0, 2, 1}, 2},
		{4, 7, []int{0, 2, 3, 1}, 3},           // and 2 0 1 3, 2 3 0 1
		{7, 21, []int{0, 1, 2, 3, 4, 5, 6}, 1}, // back and forth
		{7, 42, []int{6, 5, 4, 3, 2, 1, 0}, 1},
	} {
		if l, e := folds.Fold(x.n, x.mountains); !slices.Equal(l, x.want) || e != api.OK {
			t.Error(x.n, x.mountains, l, e)
		}
		if c, e := folds.Folds(x.n, x.mountains); c != x.number || e != api.OK {
			t.Error(x.n, x.mountains, c, e)
		}
	}
}

// P3.3, P3.8, P3.12
func TestFolds(t *testing.T) {
	for n := 1; n <= 7; n++ {
		sum := 0
		for mountains := range 1 << (n - 1) {
			want := refFolds(n, mountains)
			if len(want) == 0 {
				t.Fatal(n, mountains, "has no pile")
			}
			pile, e := folds.Fold(n, mountains)
			if !slices.Equal(pile, want[0]) || e != api.OK {
				t.Error(n, mountains, pile, e)
			}
			if ok, e := folds.Possible(pile); !ok || e != api.OK {
				t.Error(n, mountains, pile, ok, e)
			}
			if set, e := folds.Creases(pile); set != mountains || e != api.OK {
				t.Error(n, mountains, pile, set, e)
			}
			c, e := folds.Folds(n, mountains)
			if c != len(want) || e != api.OK {
				t.Error(n, mountains, c, e)
			}
			sum += c
		}
		if c, e := folds.Count(n); c != sum || e != api.OK {
			t.Error(n, c, sum, e)
		}
	}
}

// P3.12: the piles of a strip with mountains alone, the first of which is a spiral.
func TestSpirals(t *testing.T) {
	for n := 1; n <= 7; n++ {
		all := 1<<(n-1) - 1
		var spiral []int
		for x := n - 1; x >= 0; x-- { // from within: even leaves are put on top, odd ones below
			if x%2 == 0 {
				spiral = append([]int{x}, spiral...)
			} else {
				spiral = append(spiral, x)
			}
		}
		if ok, e := folds.Possible(spiral); !ok || e != api.OK {
			t.Error(spiral, ok, e)
		}
		if set, e := folds.Creases(spiral); set != all || e != api.OK {
			t.Error(spiral, set, e)
		}
		if l, e := folds.Fold(n, all); !slices.Equal(l, spiral) || e != api.OK {
			t.Error(n, l, spiral, e)
		}
		if c, e := folds.Folds(n, all); c < 1 || e != api.OK {
			t.Error(n, c, e)
		}
	}
}

// P3.3: ErrArg unless n is a number of leaves and mountains a set of its creases.
func TestFoldErrors(t *testing.T) {
	check := func(n, mountains int) {
		if l, e := folds.Fold(n, mountains); len(l) != 0 || e != api.ErrArg {
			t.Error(n, mountains, l, e)
		}
		if c, e := folds.Folds(n, mountains); c != 0 || e != api.ErrArg {
			t.Error(n, mountains, c, e)
		}
	}
	for _, n := range append(outside(1, 7), 63, 64, 65) {
		for _, mountains := range []int{0, 1, 5, -1, math.MinInt, math.MaxInt} {
			check(n, mountains)
		}
	}
	for n := 1; n <= 7; n++ {
		for _, mountains := range append(outside(0, 1<<(n-1)-1), 1<<n, 1<<62, 1<<62+1) {
			check(n, mountains)
		}
	}
}
