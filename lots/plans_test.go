package lots_test

import (
	"slices"
	"testing"

	"comfit/api"
	"comfit/lots"
)

// P2.3, Example 1
func TestPlanExamples(t *testing.T) {
	for _, x := range []struct {
		n, c          int
		single, short lots.Plan
	}{
		{1, 0, lots.Plan{Take: []int{0}, Leave: []int{1}}, lots.Plan{Take: []int{0}, Leave: []int{1}}},
		{2, 0, lots.Plan{Take: []int{-1, 0}, Leave: []int{3, 1}}, lots.Plan{Take: []int{-1, 0}, Leave: []int{1, 1}}},
		{2, 1, lots.Plan{Take: []int{-1, 1}, Leave: []int{3, 2}}, lots.Plan{Take: []int{0, 1}, Leave: []int{2, 2}}},
		{4, 2, lots.Plan{Take: []int{-1, -1, -1, 2}, Leave: []int{5, 5, 5, 3}}, lots.Plan{Take: []int{-1, 0, 1, 2}, Leave: []int{3, 3, 3, 3}}},
		{4, 0, lots.Plan{Take: []int{-1, -1, -1, 0}, Leave: []int{5, 5, 5, 1}}, lots.Plan{Take: []int{-1, -1, -1, 0}, Leave: []int{1, 1, 1, 1}}},
	} {
		if p, e := lots.Single(x.n, x.c); !same(p, x.single) || e != api.OK {
			t.Error(x, p, e)
		}
		if p, e := lots.Short(x.n, x.c); !same(p, x.short) || e != api.OK {
			t.Error(x, p, e)
		}
	}
}

// P2.3
func TestPlansOfPairs(t *testing.T) {
	for n := 1; n <= 12; n++ {
		for c := range n {
			p, e := lots.Single(n, c)
			q, f := lots.Short(n, c)
			if e != api.OK || f != api.OK || len(p.Take) != n || len(p.Leave) != n || len(q.Take) != n || len(q.Leave) != n {
				t.Fatal(n, c, p, q, e, f)
			}
			for k := 1; k <= n; k++ {
				take, leave := -1, n+1
				if k == n {
					take, leave = c, c+1
				}
				if p.Take[k-1] != take || p.Leave[k-1] != leave {
					t.Error(n, c, k, p)
				}
				if q.Take[k-1] != max(c-(n-k), -1) || q.Leave[k-1] != c+1 {
					t.Error(n, c, k, q)
				}
			}
		}
	}
}

// P2.3
func TestPlansOfBadPairs(t *testing.T) {
	check := func(n, c int) {
		if p, e := lots.Single(n, c); !isEmpty(p) || e != api.ErrArg {
			t.Error(n, c, p, e)
		}
		if p, e := lots.Short(n, c); !isEmpty(p) || e != api.ErrArg {
			t.Error(n, c, p, e)
		}
	}
	for _, n := range outside(1, 12) {
		for _, c := range []int{0, -1, 1, 12, n - 1, n} {
			check(n, c)
		}
	}
	for n := 1; n <= 12; n++ {
		for _, c := range outside(0, n-1) {
			check(n, c)
		}
	}
}

// P2.9: a plan that is cut short takes just the items that it takes whole, and stops as soon as it is known which.
func TestShortStopsWhereTheEndIsKnown(t *testing.T) {
	for n := 1; n <= 12; n++ {
		for c := range n {
			p, _ := lots.Single(n, c)
			q, _ := lots.Short(n, c)
			for _, x := range items(n) {
				known := 1
				for !isKnown(n, c, known, numberOfBad(x[:known])) {
					known++
				}
				looked, taken, e := lots.Run(p, x)
				if looked != n || taken != (numberOfBad(x) <= c) || e != api.OK {
					t.Error(p, x, looked, taken, e)
				}
				looked, short, e := lots.Run(q, x)
				if looked != known || short != taken || e != api.OK {
					t.Error(q, x, looked, short, e)
				}
			}
		}
	}
}

// isKnown reports whether all n items together have at most c bad ones, or more than c, if k of them have b.
func isKnown(n, c, k, b int) bool { return b > c || b+(n-k) <= c }

// P2.2, Example 1
func TestRunExamples(t *testing.T) {
	single := lots.Plan{Take: []int{-1, 0}, Leave: []int{3, 1}}
	short := lots.Plan{Take: []int{-1, 0}, Leave: []int{1, 1}}
	for _, x := range []struct {
		p      lots.Plan
		items  []bool
		looked int
		taken  bool
	}{
		{single, []bool{false, false}, 2, true},
		{single, []bool{true, false}, 2, false},
		{single, []bool{true, true}, 2, false},
		{short, []bool{true, false}, 1, false},
		{short, []bool{false, true}, 2, false},
		{short, []bool{false, false}, 2, true},
		// One item is looked at even where the end is known before.
		{lots.Plan{Take: []int{3, -1, -1}, Leave: []int{4, 0, 0}}, []bool{true, true, true}, 1, true},
		{lots.Plan{Take: []int{-1, 3, 3}, Leave: []int{0, 4, 4}}, []bool{false, false, false}, 1, false},
		{lots.Plan{Take: []int{1}, Leave: []int{2}}, []bool{true}, 1, true},
		{lots.Plan{Take: []int{-1}, Leave: []int{0}}, []bool{false}, 1, false},
	} {
		if looked, taken, e := lots.Run(x.p, x.items); looked != x.looked || taken != x.taken || e != api.OK {
			t.Error(x, looked, taken, e)
		}
	}
}

// P2.2
func TestRuns(t *testing.T) {
	for _, p := range plans() {
		for _, x := range items(len(p.Take)) {
			wantLooked, wantTaken := refRun(p, x)
			if looked, taken, e := lots.Run(p, x); looked != wantLooked || taken != wantTaken || e != api.OK {
				t.Error(p, x, looked, taken, e)
			}
		}
	}
}

// P2.2
func TestRunErrors(t *testing.T) {
	check := func(p lots.Plan, items []bool) {
		if looked, taken, e := lots.Run(p, items); looked != 0 || taken || e != api.ErrArg {
			t.Error(p, items, looked, taken, e)
		}
	}
	for _, p := range badPlans() {
		for n := range 15 {
			check(p, make([]bool, n))
		}
	}
	for _, p := range plans() {
		n := len(p.Take)
		for _, k := range []int{0, n - 1, n + 1, 2 * n, 1000} { // also where it would stop before
			check(p, make([]bool, k))
			check(p, slices.Repeat([]bool{true}, k))
		}
		check(p, nil)
	}
}

// P2.7
func TestTurnExamples(t *testing.T) {
	for _, x := range []struct{ p, want lots.Plan }{
		{lots.Plan{Take: []int{-1, 0}, Leave: []int{1, 1}}, lots.Plan{Take: []int{0, 1}, Leave: []int{2, 2}}},
		{lots.Plan{Take: []int{-1, 0}, Leave: []int{3, 1}}, lots.Plan{Take: []int{-1, 1}, Leave: []int{2, 2}}},
		// Both bounds at once: all lots are taken, or left, after one item.
		{lots.Plan{Take: []int{2, 2}, Leave: []int{3, 3}}, lots.Plan{Take: []int{-1, -1}, Leave: []int{0, 0}}},
		{lots.Plan{Take: []int{-1, -1}, Leave: []int{0, 0}}, lots.Plan{Take: []int{1, 2}, Leave: []int{2, 3}}},
		{lots.Plan{Take: []int{1}, Leave: []int{2}}, lots.Plan{Take: []int{-1}, Leave: []int{0}}},
		{lots.Plan{Take: []int{0}, Leave: []int{1}}, lots.Plan{Take: []int{0}, Leave: []int{1}}},
	} {
		if p, e := lots.Turn(x.p); !same(p, x.want) || e != api.OK {
			t.Error(x, p, e)
		}
	}
}

// P2.7: it does with good items what the plan does with bad ones. P2.13: Turn twice does what the plan does.
func TestTurns(t *testing.T) {
	for _, p := range slices.Concat(plans(), plansOf(3)) {
		n := len(p.Take)
		q, e := lots.Turn(p)
		twice, f := lots.Turn(q)
		if e != api.OK || f != api.OK || len(q.Take) != n || len(q.Leave) != n {
			t.Fatal(p, q, e, f)
		}
		for i := range n {
			k := i + 1
			if q.Take[i] != max(k-p.Leave[i], -1) || q.Leave[i] != min(max(k-p.Take[i], 0), n+1) {
				t.Error(p, q)
			}
		}
		for _, x := range items(n) {
			looked, taken, _ := lots.Run(p, x)
			if a, b, e := lots.Run(q, exchanged(x)); a != looked || b == taken || e != api.OK {
				t.Error(p, q, x, a, b, e)
			}
			if a, b, e := lots.Run(twice, x); a != looked || b != taken || e != api.OK {
				t.Error(p, twice, x, a, b, e)
			}
		}
	}
}

// exchanged returns the items with good and bad ones exchanged.
func exchanged(items []bool) []bool {
	var l []bool
	for _, bad := range items {
		l = append(l, !bad)
	}
	return l
}

// P2.7
func TestTurnErrors(t *testing.T) {
	for _, p := range badPlans() {
		if q, e := lots.Turn(p); !isEmpty(q) || e != api.ErrArg {
			t.Error(p, q, e)
		}
	}
}
