package cones_test

import (
	"slices"
	"testing"

	"comfit/api"
	"comfit/cones"
)

// P1.7: with each basic move its opposite; none fits into another one, each one is a move.
func TestBasicMoves(t *testing.T) {
	for _, a := range matrices() {
		l, e := cones.Basic(a)
		if e != api.OK || !slices.IsSortedFunc(l, slices.Compare) {
			t.Error(a, l, e)
		}
		for i, x := range l {
			if !isOneOf(l, minus(make([]int, len(x)), x)) {
				t.Error(a, x, "has no opposite")
			}
			if p, e := cones.Times(a, x); !isZero(p) || isZero(x) || e != api.OK {
				t.Error(a, x, "is no move, or 0")
			}
			for k, y := range l {
				if ok, e := cones.Fits(x, y); ok != (i == k) || e != api.OK {
					t.Error(a, x, y, ok, e)
				}
			}
		}
	}
}

// P1.7: every move is a sum of basic ones that fit.
func TestEveryMoveSplits(t *testing.T) {
	for _, a := range some() {
		for _, x := range refMoves(a, 3) {
			l, e := cones.Split(a, x)
			if ok, f := cones.CheckSplit(a, x, l); !ok || e != api.OK || f != api.OK {
				t.Error(a, x, l, ok, e, f)
			}
		}
	}
}

// P1.8: Count is 1 just if no basic move leads from x to a vector without numbers below 0.
func TestCountOfOne(t *testing.T) {
	c := &chance{13}
	for _, a := range matrices() {
		x := c.vector(len(a[0]), 0, 2)
		n, e := cones.Count(a, x)
		if e != api.OK {
			continue
		}
		basic, _ := cones.Basic(a)
		leads := slices.ContainsFunc(basic, func(move []int) bool { return isWhole(plus(x, move)) })
		if (n == 1) == leads {
			t.Error(a, x, n, leads)
		}
	}
}

// P1.8: there are ways between all assortments of a family, within it.
func TestWaysInFamilies(t *testing.T) {
	c := &chance{14}
	for _, a := range some() {
		x := c.vector(len(a[0]), 0, 3)
		l, e := cones.Family(a, x)
		if e != api.OK || len(l) > 60 {
			continue
		}
		for _, y := range l {
			if slices.Max(y) > 6 {
				continue
			}
			way, e := cones.Way(a, x, y)
			if e != api.OK {
				t.Error(a, x, y, e)
			}
			for _, v := range way {
				if !isOneOf(l, v) {
					t.Error(a, x, y, v, "is not in the family")
				}
			}
			if k, e := cones.Family(a, y); !same(k, l) || e != api.OK {
				t.Error(a, x, y, "have other families")
			}
		}
	}
}

// P1.9: a chain of Steps ends at the best.
func TestChainsOfSteps(t *testing.T) {
	c := &chance{15}
	for _, a := range some() {
		cols := len(a[0])
		x, prices := c.vector(cols, 0, 6), c.vector(cols, -9, 9)
		best, e := cones.Best(a, x, prices)
		if e != api.OK {
			continue
		}
		for {
			y, e := cones.Step(a, x, prices)
			if e == api.ErrNone {
				break
			}
			if e != api.OK || refDot(prices, y) >= refDot(prices, x) {
				t.Fatal(a, x, prices, y, e)
			}
			x = y
		}
		if refDot(prices, x) != best {
			t.Error(a, prices, x, best)
		}
	}
}

// P1.10: every move without numbers below 0 is a sum of pure moves.
func TestPureMoves(t *testing.T) {
	c := &chance{16}
	for _, a := range some() {
		pure, e := cones.Pure(a)
		if e != api.OK {
			t.Error(a, e)
		}
		basic, _ := cones.Basic(a)
		if !same(pure, slices.DeleteFunc(basic, func(x []int) bool { return !isWhole(x) })) {
			t.Error(a, pure)
		}
		if len(pure) == 0 {
			continue
		}
		x := make([]int, len(a[0]))
		for range 10 {
			x = plus(x, pure[c.below(len(pure))])
		}
		l, e := cones.Split(a, x)
		sum := make([]int, len(x))
		for _, y := range l {
			if !isOneOf(pure, y) {
				t.Error(a, x, y, "is not pure")
			}
			sum = plus(sum, y)
		}
		if !slices.Equal(sum, x) || e != api.OK {
			t.Error(a, x, l, e)
		}
	}
}

// P1.11: exchanging columns exchanges the numbers of all basic moves.
func TestExchangedColumns(t *testing.T) {
	for _, a := range matrices() {
		for j := range a[0] {
			b := clone(a)
			for _, row := range b {
				row[0], row[j] = row[j], row[0]
			}
			want, _ := cones.Basic(a)
			for _, x := range want {
				x[0], x[j] = x[j], x[0]
			}
			slices.SortFunc(want, slices.Compare)
			if l, e := cones.Basic(b); !same(l, want) || e != api.OK {
				t.Error(a, b, l, e)
			}
		}
	}
}

// P1.11: a row that is 0, or a multiple of the other one, changes nothing.
func TestRowsLeftOut(t *testing.T) {
	c := &chance{17}
	for cols := 1; cols <= 4; cols++ {
		for _, row := range rows(cols) {
			for n := -2; n <= 2; n++ {
				other := make([]int, cols)
				for j := range row {
					other[j] = n * row[j]
				}
				if slices.Min(other) < -2 || slices.Max(other) > 2 {
					continue
				}
				sameTask(t, c, [][]int{row}, [][]int{row, other})
				sameTask(t, c, [][]int{row}, [][]int{other, row})
			}
		}
	}
}

// sameTask checks that a and b have the same moves, families and ways.
func sameTask(t *testing.T, c *chance, a, b [][]int) {
	t.Helper()
	l, _ := cones.Basic(a)
	if k, e := cones.Basic(b); !same(l, k) || e != api.OK {
		t.Error(a, b, k, e)
	}
	l, _ = cones.Pure(a)
	if k, e := cones.Pure(b); !same(l, k) || e != api.OK {
		t.Error(a, b, k, e)
	}
	x, prices := c.vector(len(a[0]), 0, 2), c.vector(len(a[0]), -9, 9)
	l, f := cones.Family(a, x)
	if k, e := cones.Family(b, x); !same(l, k) || e != f {
		t.Error(a, b, x, k, e)
	}
	n, f := cones.Best(a, x, prices)
	if k, e := cones.Best(b, x, prices); n != k || e != f {
		t.Error(a, b, x, prices, k, e)
	}
	y, f := cones.Step(a, x, prices)
	if z, e := cones.Step(b, x, prices); !slices.Equal(y, z) || e != f {
		t.Error(a, b, x, prices, z, e)
	}
}
