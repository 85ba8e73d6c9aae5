package lots_test

import (
	"math"
	"slices"

	"comfit/lots"
)

// dice is a row of numbers that look as if drawn by lot, the same in every run.
type dice struct{ at uint32 }

func (d *dice) from(low, high int) int {
	d.at = d.at*1664525 + 1013904223
	return low + int(d.at>>8)%(high-low+1)
}

func (d *dice) chance() lots.Chance {
	of := d.from(1, 12)
	return lots.Chance{Yes: d.from(0, of), Of: of}
}

// plan returns a plan for n items; if it is late, it seldom ends early.
func (d *dice) plan(n int, late bool) lots.Plan {
	var p lots.Plan
	for k := 1; k < n; k++ {
		take := d.from(-1, n)
		leave := d.from(take+1, n+1)
		if late {
			take = max(d.from(-3, k)-3, -1)
			leave = min(k+d.from(0, 3), n+1)
		}
		p.Take, p.Leave = append(p.Take, take), append(p.Leave, leave)
	}
	take := d.from(-1, n)
	return lots.Plan{Take: append(p.Take, take), Leave: append(p.Leave, take+1)}
}

// chances returns all Chances.
func chances() []lots.Chance {
	var l []lots.Chance
	for of := 1; of <= 12; of++ {
		for yes := range of + 1 {
			l = append(l, lots.Chance{Yes: yes, Of: of})
		}
	}
	return l
}

// someChances returns Chances that include the least and the largest ones, and fractions in other than lowest terms.
func someChances() []lots.Chance {
	return []lots.Chance{{0, 1}, {1, 1}, {0, 12}, {12, 12}, {1, 2}, {6, 12}, {1, 12}, {11, 12}, {5, 11}, {10, 11}, {2, 9}}
}

func badChances() []lots.Chance {
	return []lots.Chance{
		{0, 0}, {1, 0}, {0, -1}, {-1, -1}, {-1, 1}, {-1, 12}, {2, 1}, {12, 11}, {13, 12}, {0, 13}, {1, 13}, {13, 13}, {-2, -1},
		{math.MinInt, 1}, {math.MaxInt, 1}, {math.MaxInt, math.MaxInt}, {math.MinInt, math.MinInt}, {0, math.MinInt}, {0, math.MaxInt},
	}
}

// extended returns the plans with one number more for k - 1 of n items, or for the last of them.
func extended(l []lots.Plan, n int, last bool) []lots.Plan {
	var more []lots.Plan
	for _, p := range l {
		for take := -1; take <= n; take++ {
			for leave := take + 1; leave <= n+1; leave++ {
				if !last || leave == take+1 {
					more = append(more, lots.Plan{Take: append(slices.Clone(p.Take), take), Leave: append(slices.Clone(p.Leave), leave)})
				}
			}
		}
	}
	return more
}

// plansOf returns all plans for n items.
func plansOf(n int) []lots.Plan {
	l := []lots.Plan{{}}
	for k := 1; k <= n; k++ {
		l = extended(l, n, k == n)
	}
	return l
}

// plans returns all plans for at most two items, many for three, and some for more; all kinds of chances with each one of them take little time.
func plans() []lots.Plan {
	l := slices.Concat(plansOf(1), plansOf(2))
	for i, p := range plansOf(3) {
		if i%5 == 0 {
			l = append(l, p)
		}
	}
	for n := 1; n <= 12; n++ {
		for c := range n {
			p, _ := lots.Single(n, c)
			q, _ := lots.Short(n, c)
			l = append(l, p, q)
		}
	}
	d := &dice{1}
	for n := 3; n <= 12; n++ {
		for range 4 {
			l = append(l, d.plan(n, true), d.plan(n, false))
		}
	}
	return l
}

// badPlans returns plans that are none.
func badPlans() []lots.Plan {
	thirteen := slices.Repeat([]int{0}, 13)
	return []lots.Plan{
		{},
		{[]int{}, []int{}},
		{[]int{0}, nil},
		{nil, []int{1}},
		{[]int{0}, []int{1, 1}},
		{[]int{0, 0}, []int{1}},
		{[]int{-1, 0, 0}, []int{2, 1}},
		{[]int{-1, 0}, []int{2, 1, 1}},
		// Numbers outside their bounds.
		{[]int{-2}, []int{-1}},
		{[]int{-2}, []int{0}},
		{[]int{2}, []int{3}},
		{[]int{1}, []int{3}},
		{[]int{-2, 0}, []int{1, 1}},
		{[]int{-1, 0}, []int{4, 1}},
		{[]int{3, 0}, []int{4, 1}},
		{[]int{-1, 3}, []int{1, 4}},
		{[]int{-1, -2}, []int{1, -1}},
		{[]int{math.MinInt, 0}, []int{1, 1}},
		{[]int{-1, 0}, []int{math.MaxInt, 1}},
		{[]int{math.MaxInt}, []int{math.MinInt}}, // one more than the largest number
		{[]int{-1, math.MaxInt}, []int{1, math.MinInt}},
		// Take is not less than Leave.
		{[]int{0}, []int{0}},
		{[]int{1}, []int{0}},
		{[]int{0, 0}, []int{0, 1}},
		{[]int{1, 0}, []int{0, 1}},
		{[]int{2, 0}, []int{2, 1}},
		{[]int{-1, 1, 0}, []int{1, 1, 1}},
		// It does not end by the last item.
		{[]int{0}, []int{2}},
		{[]int{-1}, []int{1}},
		{[]int{-1, 0}, []int{3, 2}},
		{[]int{-1, -1}, []int{3, 3}},
		{[]int{0, -1}, []int{1, 1}},
		// Too many items.
		{thirteen, slices.Repeat([]int{1}, 13)},
		{slices.Repeat([]int{0}, 1000), slices.Repeat([]int{1}, 1000)},
	}
}

// items returns all slices of n items.
func items(n int) [][]bool {
	var l [][]bool
	for set := range 1 << n {
		x := make([]bool, n)
		for i := range x {
			x[i] = set>>i&1 == 1
		}
		l = append(l, x)
	}
	return l
}

func numberOfBad(items []bool) int {
	n := 0
	for _, bad := range items {
		if bad {
			n++
		}
	}
	return n
}

// outside returns numbers that are not from low to high.
func outside(low, high int) []int {
	return []int{low - 1, high + 1, low - 1000, high + 1000, math.MinInt, math.MaxInt}
}

func clone(p lots.Plan) lots.Plan {
	return lots.Plan{Take: slices.Clone(p.Take), Leave: slices.Clone(p.Leave)}
}

func same(p, q lots.Plan) bool {
	return slices.Equal(p.Take, q.Take) && slices.Equal(p.Leave, q.Leave)
}

func isEmpty(p lots.Plan) bool { return len(p.Take) == 0 && len(p.Leave) == 0 }
