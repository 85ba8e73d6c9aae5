package lots_test

import (
	"cmp"
	"math/big"
	"slices"
	"testing"

	"comfit/api"
	"comfit/lots"
)

// P2.1, Example 1
func TestAverageExamples(t *testing.T) {
	single := lots.Plan{Take: []int{-1, 0}, Leave: []int{3, 1}}
	short := lots.Plan{Take: []int{-1, 0}, Leave: []int{1, 1}}
	all := lots.Plan{Take: []int{2, -1}, Leave: []int{3, 0}}
	for _, x := range []struct {
		p            lots.Plan
		bad          lots.Chance
		taken, looks api.Frac
	}{
		{single, lots.Chance{Yes: 1, Of: 2}, api.Frac{Num: 1, Den: 4}, api.Frac{Num: 2, Den: 1}},
		{short, lots.Chance{Yes: 1, Of: 2}, api.Frac{Num: 1, Den: 4}, api.Frac{Num: 3, Den: 2}},
		{short, lots.Chance{Yes: 6, Of: 12}, api.Frac{Num: 1, Den: 4}, api.Frac{Num: 3, Den: 2}},
		{short, lots.Chance{Yes: 1, Of: 3}, api.Frac{Num: 4, Den: 9}, api.Frac{Num: 5, Den: 3}},
		{short, lots.Chance{Yes: 0, Of: 7}, api.Frac{Num: 1, Den: 1}, api.Frac{Num: 2, Den: 1}},
		{short, lots.Chance{Yes: 7, Of: 7}, api.Frac{Num: 0, Den: 1}, api.Frac{Num: 1, Den: 1}},
		{all, lots.Chance{Yes: 5, Of: 11}, api.Frac{Num: 1, Den: 1}, api.Frac{Num: 1, Den: 1}},
	} {
		if f, e := lots.Taken(x.p, x.bad); f != x.taken || e != api.OK {
			t.Error(x, f, e)
		}
		if f, e := lots.Looks(x.p, x.bad); f != x.looks || e != api.OK {
			t.Error(x, f, e)
		}
	}
}

// P2.1, P2.10: Taken and Looks are the averages of Run, also where their numbers are largest. P2.8: their bounds.
func TestAverages(t *testing.T) {
	for _, p := range plans() {
		n := len(p.Take)
		r := refRuns(n, func(x []bool) (int, bool) {
			looked, taken, _ := lots.Run(p, x)
			return looked, taken
		})
		l := someChances()
		if n <= 3 {
			l = chances()
		}
		for _, bad := range l {
			f, e := lots.Taken(p, bad)
			if f != fracOf(average(n, r.taken, bad)) || f.Num < 0 || f.Num > f.Den || e != api.OK {
				t.Error(p, bad, f, e)
			}
			f, e = lots.Looks(p, bad)
			if f != fracOf(average(n, r.looks, bad)) || f.Num < f.Den || f.Num > n*f.Den || e != api.OK {
				t.Error(p, bad, f, e)
			}
		}
	}
}

// P2.8: a plan of n and c looks at n items and takes a lot with fewer bad items no less often; cut short it takes as often, P2.9, and looks at no more.
func TestAveragesOfPairs(t *testing.T) {
	rising := chances()
	slices.SortFunc(rising, func(x, y lots.Chance) int { return cmp.Compare(x.Yes*y.Of, y.Yes*x.Of) })
	for n := 1; n <= 12; n++ {
		for c := range n {
			p, _ := lots.Single(n, c)
			q, _ := lots.Short(n, c)
			before := rat(1, 1)
			for _, bad := range rising {
				taken, _ := lots.Taken(p, bad)
				x := rat(taken.Num, taken.Den)
				if x.Cmp(before) > 0 || x.Cmp(refAtMost(n, c, bad)) != 0 {
					t.Error(n, c, bad, taken)
				}
				before = x
				if f, e := lots.Taken(q, bad); f != taken || e != api.OK {
					t.Error(n, c, bad, f, e)
				}
				if f, e := lots.Looks(p, bad); f != (api.Frac{Num: n, Den: 1}) || e != api.OK {
					t.Error(n, c, bad, f, e)
				}
				if f, e := lots.Looks(q, bad); f.Num < f.Den || f.Num > n*f.Den || e != api.OK {
					t.Error(n, c, bad, f, e)
				}
			}
		}
	}
}

// P2.13
func TestTakenOfTurn(t *testing.T) {
	for _, p := range plans() {
		q, _ := lots.Turn(p)
		for _, bad := range someChances() {
			f, _ := lots.Taken(p, bad)
			g, e := lots.Taken(q, lots.Chance{Yes: bad.Of - bad.Yes, Of: bad.Of})
			if g != (api.Frac{Num: f.Den - f.Num, Den: f.Den}) || e != api.OK {
				t.Error(p, q, bad, f, g, e)
			}
		}
	}
}

// P2.1
func TestAverageErrors(t *testing.T) {
	check := func(p lots.Plan, bad lots.Chance) {
		if f, e := lots.Taken(p, bad); f != (api.Frac{}) || e != api.ErrArg {
			t.Error(p, bad, f, e)
		}
		if f, e := lots.Looks(p, bad); f != (api.Frac{}) || e != api.ErrArg {
			t.Error(p, bad, f, e)
		}
	}
	for _, p := range badPlans() {
		for _, bad := range slices.Concat(someChances(), badChances()) {
			check(p, bad)
		}
	}
	for _, p := range plans() {
		for _, bad := range badChances() {
			check(p, bad)
		}
	}
}

// P2.4, Example 2
func TestFindExamples(t *testing.T) {
	none, sure := lots.Chance{Yes: 0, Of: 1}, lots.Chance{Yes: 1, Of: 1}
	for _, x := range []struct {
		good, bad, refuse, accept lots.Chance
		want                      [2]int
	}{
		{none, lots.Chance{Yes: 1, Of: 2}, none, lots.Chance{Yes: 1, Of: 4}, [2]int{2, 0}},
		{none, lots.Chance{Yes: 1, Of: 2}, none, lots.Chance{Yes: 2, Of: 9}, [2]int{3, 0}},
		{none, sure, none, none, [2]int{1, 0}},
		{sure, sure, sure, sure, [2]int{1, 0}},
		{sure, none, none, sure, [2]int{}},
		{sure, none, sure, none, [2]int{}},
		// With N of 12, c of 3 leaves good lots a little too often: with the chance 0.1252.
		{lots.Chance{Yes: 1, Of: 6}, lots.Chance{Yes: 1, Of: 2}, lots.Chance{Yes: 1, Of: 8}, lots.Chance{Yes: 1, Of: 8}, [2]int{11, 3}},
		{lots.Chance{Yes: 1, Of: 6}, lots.Chance{Yes: 1, Of: 2}, lots.Chance{Yes: 1, Of: 8}, lots.Chance{Yes: 1, Of: 9}, [2]int{}},
		{none, lots.Chance{Yes: 1, Of: 6}, none, lots.Chance{Yes: 1, Of: 8}, [2]int{12, 0}},
		{none, lots.Chance{Yes: 1, Of: 7}, none, lots.Chance{Yes: 1, Of: 8}, [2]int{}},
		// The least N counts first, then the least c.
		{none, none, none, sure, [2]int{1, 0}},
		{lots.Chance{Yes: 1, Of: 2}, none, lots.Chance{Yes: 1, Of: 4}, sure, [2]int{2, 1}},
		{lots.Chance{Yes: 1, Of: 2}, lots.Chance{Yes: 1, Of: 2}, lots.Chance{Yes: 1, Of: 2}, lots.Chance{Yes: 1, Of: 2}, [2]int{1, 0}},
	} {
		want := api.OK
		if x.want == [2]int{} {
			want = api.ErrNone
		}
		if l, e := lots.Find(x.good, x.bad, x.refuse, x.accept); l != x.want || e != want {
			t.Error(x, l, e)
		}
	}
}

// P2.4
func TestFinds(t *testing.T) {
	check := func(good, bad, refuse, accept lots.Chance) {
		want, wantE := refFind(good, bad, refuse, accept), api.OK
		if want == [2]int{} {
			wantE = api.ErrNone
		}
		if l, e := lots.Find(good, bad, refuse, accept); l != want || e != wantE {
			t.Error(good, bad, refuse, accept, l, e)
		}
	}
	few := []lots.Chance{{0, 1}, {1, 4}, {1, 2}, {3, 4}, {1, 1}} // with which chances are often just as large
	for _, good := range few {
		for _, bad := range few {
			for _, refuse := range few {
				for _, accept := range few {
					check(good, bad, refuse, accept)
				}
			}
		}
	}
	d := &dice{2}
	for range 300 {
		check(d.chance(), d.chance(), d.chance(), d.chance())
		of := d.from(2, 12)
		check(lots.Chance{Yes: 1, Of: d.from(4, 12)}, lots.Chance{Yes: of / 2, Of: of}, lots.Chance{Yes: 1, Of: d.from(3, 12)}, lots.Chance{Yes: 1, Of: d.from(3, 12)})
	}
}

// P2.4
func TestFindErrors(t *testing.T) {
	for _, bad := range badChances() {
		for i := range 4 {
			l := []lots.Chance{{0, 1}, {1, 1}, {1, 1}, {1, 1}}
			l[i] = bad
			if x, e := lots.Find(l[0], l[1], l[2], l[3]); x != [2]int{} || e != api.ErrArg {
				t.Error(l, x, e)
			}
		}
	}
}

// P2.5, Example 2
func TestFiniteExamples(t *testing.T) {
	for _, x := range []struct {
		n, b, m, c int
		want       api.Frac
	}{
		{4, 2, 2, 0, api.Frac{Num: 1, Den: 6}},
		{4, 2, 2, 1, api.Frac{Num: 5, Den: 6}},
		{4, 2, 3, 0, api.Frac{Num: 0, Den: 1}},
		{1, 0, 0, 0, api.Frac{Num: 1, Den: 1}},
		{1, 1, 1, 0, api.Frac{Num: 0, Den: 1}},
		{40, 40, 40, 39, api.Frac{Num: 0, Den: 1}},
		{40, 20, 20, 0, api.Frac{Num: 1, Den: 137846528820}},
		{40, 20, 20, 19, api.Frac{Num: 137846528819, Den: 137846528820}},
	} {
		if f, e := lots.Finite(x.n, x.b, x.m, x.c); f != x.want || e != api.OK {
			t.Error(x, f, e)
		}
	}
}

// P2.5: small lots, counted one choice after the other.
func TestFiniteOfSmallLots(t *testing.T) {
	for n := 1; n <= 7; n++ {
		for b := range n + 1 {
			for m := range n + 1 {
				for c := range m + 1 {
					few, all := 0, 0
					for _, x := range items(n) { // true: looked at
						if numberOfBad(x) == m {
							all++
							if numberOfBad(x[:b]) <= c {
								few++
							}
						}
					}
					if f, e := lots.Finite(n, b, m, c); f != fracOf(rat(few, all)) || e != api.OK {
						t.Error(n, b, m, c, f, e)
					}
				}
			}
		}
	}
}

// P2.5, P2.11
func TestFinites(t *testing.T) {
	for n := 1; n <= 40; n++ {
		for b := range n + 1 {
			for m := range n + 1 {
				if n < 40 && (b+m+n)%4 > 0 { // to save time
					continue
				}
				checkFinite(t, n, b, m)
			}
		}
	}
}

func checkFinite(t *testing.T, n, b, m int) {
	want := new(big.Rat)
	for c := range m + 1 {
		one := product(binomial(b, c), binomial(n-b, m-c))
		want.Add(want, one.Quo(one, binomial(n, m)))
		f, e := lots.Finite(n, b, m, c)
		if f != fracOf(want) || e != api.OK {
			t.Error(n, b, m, c, f, e)
		}
		if (c >= b || c >= m) && f != (api.Frac{Num: 1, Den: 1}) {
			t.Error(n, b, m, c, f)
		}
		if c <= b {
			if g, e := lots.Finite(n, m, b, c); g != f || e != api.OK {
				t.Error(n, b, m, c, f, g, e)
			}
		}
	}
}

// P2.5
func TestFiniteErrors(t *testing.T) {
	check := func(n, b, m, c int) {
		if f, e := lots.Finite(n, b, m, c); f != (api.Frac{}) || e != api.ErrArg {
			t.Error(n, b, m, c, f, e)
		}
	}
	for _, n := range outside(1, 40) {
		check(n, 0, 0, 0)
		check(n, n, n, n)
		check(n, 1, 1, 1)
	}
	for _, n := range []int{1, 2, 17, 40} {
		for _, x := range outside(0, n) {
			check(n, x, 0, 0)
			check(n, n, x, 0)
			check(n, 0, x, x)
		}
		for _, m := range []int{0, 1, n} {
			for _, c := range outside(0, m) {
				check(n, 0, m, c)
				check(n, n, m, c)
			}
		}
	}
}
