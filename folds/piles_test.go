package folds_test

import (
	"slices"
	"testing"

	"comfit/api"
	"comfit/folds"
)

// P3.1, Example 1
func TestPossibleExamples(t *testing.T) {
	for _, x := range []struct {
		pile []int
		want bool
		pair [2]int
	}{
		{[]int{0}, true, [2]int{}},
		{[]int{0, 1}, true, [2]int{}},
		{[]int{1, 0}, true, [2]int{}},
		{[]int{0, 1, 2}, true, [2]int{}},
		{[]int{0, 2, 1}, true, [2]int{}},
		{[]int{1, 0, 2}, true, [2]int{}},
		{[]int{1, 2, 0}, true, [2]int{}},
		{[]int{2, 0, 1}, true, [2]int{}},
		{[]int{2, 1, 0}, true, [2]int{}},
		{[]int{0, 2, 1, 3}, false, [2]int{0, 2}},
		{[]int{0, 2, 3, 1}, true, [2]int{}}, // one within the other
		{[]int{2, 0, 1, 3}, true, [2]int{}},
		{[]int{1, 0, 2, 3}, true, [2]int{}}, // one after the other
		{[]int{0, 3, 1, 2}, false, [2]int{0, 2}},
		{[]int{2, 1, 3, 0}, false, [2]int{0, 2}},
		{[]int{0, 1, 3, 2, 4}, false, [2]int{1, 3}},
		{[]int{0, 1, 3, 4, 2}, true, [2]int{}},
		{[]int{0, 2, 1, 3, 5, 4}, false, [2]int{0, 2}},
		{[]int{0, 4, 2, 3, 1, 5}, false, [2]int{0, 4}}, // 1 and 3 cross, too
		{[]int{0, 1, 3, 5, 2, 4}, false, [2]int{1, 3}}, // 2 and 4 cross, too
		{[]int{1, 0, 2, 4, 3, 5}, false, [2]int{2, 4}},
		{[]int{0, 1, 2, 4, 6, 5, 3}, true, [2]int{}},
		{[]int{0, 1, 2, 4, 3, 5, 6}, false, [2]int{2, 4}},
		{[]int{0, 1, 2, 3, 5, 4, 6}, false, [2]int{3, 5}},
	} {
		ok, e := folds.Possible(x.pile)
		if ok != x.want || e != api.OK {
			t.Error(x.pile, ok, e)
		}
		want := api.ErrNone
		if !x.want {
			want = api.OK
		}
		if pair, e := folds.Cross(x.pile); pair != x.pair || e != want {
			t.Error(x.pile, pair, e)
		}
	}
}

// P3.1
func TestPossible(t *testing.T) {
	for _, pile := range strips() {
		strip := refStrip(len(pile))
		pairs := refPairs(pile, strip)
		if ok, e := folds.Possible(pile); ok != refPossible(pile, strip) || ok != (len(pairs) == 0) || e != api.OK {
			t.Error(pile, ok, e)
		}
		pair, e := folds.Cross(pile)
		if len(pairs) == 0 && (pair != [2]int{} || e != api.ErrNone) {
			t.Error(pile, pair, e)
		}
		if len(pairs) > 0 && (pair != pairs[0] || e != api.OK) {
			t.Error(pile, pair, e)
		}
	}
}

// P3.1, P3.3 to P3.5: ErrArg unless it is a pile of a strip.
func TestPileErrors(t *testing.T) {
	for _, pile := range badStrips() {
		if ok, e := folds.Possible(pile); ok || e != api.ErrArg {
			t.Error(pile, ok, e)
		}
		if pair, e := folds.Cross(pile); pair != [2]int{} || e != api.ErrArg {
			t.Error(pile, pair, e)
		}
		if set, e := folds.Creases(pile); set != 0 || e != api.ErrArg {
			t.Error(pile, set, e)
		}
		if l, e := folds.Turn(pile); len(l) != 0 || e != api.ErrArg {
			t.Error(pile, l, e)
		}
		if l, e := folds.Back(pile); len(l) != 0 || e != api.ErrArg {
			t.Error(pile, l, e)
		}
		if l, e := folds.Open(pile); len(l) != 0 || e != api.ErrArg {
			t.Error(pile, l, e)
		}
	}
}

// P3.2, P3.7, P3.8
func TestCounts(t *testing.T) {
	for n, want := range []int{0, 1, 2, 6, 16, 50, 144, 462} {
		if n == 0 {
			continue
		}
		if c, e := folds.Count(n); c != want || e != api.OK {
			t.Error(n, c, e)
		}
		c, e := folds.Round(n)
		if c*n != want || e != api.OK {
			t.Error(n, c, e)
		}
		top := 0
		for _, pile := range refList(n) {
			if pile[0] == 0 {
				top++
			}
		}
		if c != top {
			t.Error(n, c, top)
		}
	}
}

// P3.2, Example 1
func TestListExamples(t *testing.T) {
	for n, want := range map[int][][]int{
		1: {{0}},
		2: {{0, 1}, {1, 0}},
		3: {{0, 1, 2}, {0, 2, 1}, {1, 0, 2}, {1, 2, 0}, {2, 0, 1}, {2, 1, 0}},
		4: {
			{0, 1, 2, 3}, {0, 1, 3, 2}, {0, 2, 3, 1}, {0, 3, 2, 1}, {1, 0, 2, 3}, {1, 0, 3, 2}, {1, 2, 3, 0}, {1, 3, 2, 0},
			{2, 0, 1, 3}, {2, 1, 0, 3}, {2, 3, 0, 1}, {2, 3, 1, 0}, {3, 0, 1, 2}, {3, 1, 0, 2}, {3, 2, 0, 1}, {3, 2, 1, 0},
		},
	} {
		if l, e := folds.List(n); !same(l, want) || e != api.OK {
			t.Error(n, l, e)
		}
	}
}

// P3.2
func TestLists(t *testing.T) {
	for n := 1; n <= 6; n++ {
		if l, e := folds.List(n); !same(l, refList(n)) || e != api.OK {
			t.Error(n, len(l), e)
		}
	}
}

// P3.2, P3.7
func TestCountErrors(t *testing.T) {
	for _, n := range outside(1, 7) {
		if c, e := folds.Count(n); c != 0 || e != api.ErrArg {
			t.Error(n, c, e)
		}
		if c, e := folds.Round(n); c != 0 || e != api.ErrArg {
			t.Error(n, c, e)
		}
	}
	for _, n := range append(outside(1, 6), 8) {
		if l, e := folds.List(n); len(l) != 0 || e != api.ErrArg {
			t.Error(n, l, e)
		}
	}
}

// P3.4
func TestTurnAndBackExamples(t *testing.T) {
	for _, x := range []struct{ pile, turn, back []int }{
		{[]int{0}, []int{0}, []int{0}},
		{[]int{0, 1}, []int{1, 0}, []int{1, 0}},
		{[]int{0, 2, 1}, []int{1, 2, 0}, []int{2, 0, 1}},
		{[]int{2, 3, 0, 1}, []int{1, 0, 3, 2}, []int{1, 0, 3, 2}},
		{[]int{0, 2, 1, 3}, []int{3, 1, 2, 0}, []int{3, 1, 2, 0}}, // not possible
		{[]int{6, 0, 1, 2, 3, 4, 5}, []int{5, 4, 3, 2, 1, 0, 6}, []int{0, 6, 5, 4, 3, 2, 1}},
	} {
		if l, e := folds.Turn(x.pile); !slices.Equal(l, x.turn) || e != api.OK {
			t.Error(x.pile, l, e)
		}
		if l, e := folds.Back(x.pile); !slices.Equal(l, x.back) || e != api.OK {
			t.Error(x.pile, l, e)
		}
	}
}

// P3.4: of all piles, possible or not.
func TestTurnAndBack(t *testing.T) {
	for _, pile := range strips() {
		n := len(pile)
		turn, e := folds.Turn(pile)
		back, f := folds.Back(pile)
		if len(turn) != n || len(back) != n || e != api.OK || f != api.OK {
			t.Fatal(pile, turn, back, e, f)
		}
		for i, x := range pile {
			if turn[n-1-i] != x || back[i] != n-1-x {
				t.Error(pile, turn, back)
			}
		}
	}
}

// P3.5
func TestOpenExamples(t *testing.T) {
	for _, x := range []struct {
		pile, want []int
		e          api.Errno
	}{
		{[]int{0}, nil, api.ErrArg},
		{[]int{0, 1}, []int{0}, api.OK},
		{[]int{1, 0}, []int{0}, api.OK},
		{[]int{0, 2, 1}, []int{0, 1}, api.OK},
		{[]int{2, 1, 0}, []int{1, 0}, api.OK},
		{[]int{1, 0, 2}, []int{1, 0}, api.OK},
		{[]int{0, 2, 4, 6, 5, 3, 1}, []int{0, 2, 4, 5, 3, 1}, api.OK},
		{[]int{0, 2, 1, 3}, nil, api.ErrState},
		{[]int{0, 1, 3, 2, 4}, nil, api.ErrState}, // it would be possible without the last leaf
	} {
		if l, e := folds.Open(x.pile); !slices.Equal(l, x.want) || e != x.e {
			t.Error(x.pile, l, e)
		}
	}
}
