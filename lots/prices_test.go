package lots_test

import (
	"math/big"
	"slices"
	"testing"

	"comfit/api"
	"comfit/lots"
)

func (s sorts) price(p lots.Plan) (api.Frac, api.Errno) {
	return lots.Price(p, s.good, s.bad, s.w, s.take, s.leave)
}

func (s sorts) wise(n int) (api.Frac, api.Errno) {
	return lots.Wise(n, s.good, s.bad, s.w, s.take, s.leave)
}

// someSorts returns lots with the edges of all chances and prices, those with the largest numbers, and some drawn by lot.
func someSorts() []sorts {
	none, half, sure := lots.Chance{Yes: 0, Of: 1}, lots.Chance{Yes: 1, Of: 2}, lots.Chance{Yes: 1, Of: 1}
	l := []sorts{
		{lots.Chance{Yes: 5, Of: 11}, lots.Chance{Yes: 7, Of: 12}, lots.Chance{Yes: 5, Of: 7}, 100, 100},
		{lots.Chance{Yes: 10, Of: 11}, lots.Chance{Yes: 11, Of: 12}, lots.Chance{Yes: 11, Of: 12}, 100, 100},
		{lots.Chance{Yes: 1, Of: 12}, lots.Chance{Yes: 11, Of: 12}, lots.Chance{Yes: 7, Of: 12}, 99, 100},
		{lots.Chance{Yes: 3, Of: 6}, lots.Chance{Yes: 6, Of: 12}, half, 100, 100}, // as bad, but not the same pair
		{lots.Chance{Yes: 6, Of: 12}, lots.Chance{Yes: 3, Of: 6}, half, 7, 3},
		{half, half, none, 0, 0},
	}
	for _, good := range []lots.Chance{none, half, sure} {
		for _, bad := range []lots.Chance{none, half, sure} {
			for _, w := range []lots.Chance{none, half, sure} {
				for _, x := range [][2]int{{0, 0}, {0, 100}, {100, 0}, {100, 100}, {1, 2}} {
					if ratOf(good).Cmp(ratOf(bad)) <= 0 {
						l = append(l, sorts{good, bad, w, x[0], x[1]})
					}
				}
			}
		}
	}
	d := &dice{3}
	for range 40 {
		l = append(l, d.sorts())
	}
	return l
}

// P2.6
func TestPriceExamples(t *testing.T) {
	one := lots.Plan{Take: []int{0}, Leave: []int{1}}
	never := lots.Plan{Take: []int{-1}, Leave: []int{0}}
	half, quarter := lots.Chance{Yes: 1, Of: 2}, lots.Chance{Yes: 1, Of: 4}
	for _, x := range []struct {
		p    lots.Plan
		s    sorts
		want api.Frac
	}{
		{one, sorts{quarter, half, half, 4, 8}, api.Frac{Num: 3, Den: 1}},
		{one, sorts{quarter, half, half, 0, 0}, api.Frac{Num: 1, Den: 1}},
		{one, sorts{quarter, half, lots.Chance{Yes: 1, Of: 1}, 4, 9}, api.Frac{Num: 13, Den: 4}},
		{one, sorts{quarter, half, lots.Chance{Yes: 0, Of: 1}, 3, 9}, api.Frac{Num: 5, Den: 2}},
		{never, sorts{quarter, half, lots.Chance{Yes: 1, Of: 3}, 100, 9}, api.Frac{Num: 4, Den: 1}},
		// The sorts may be in the other order.
		{one, sorts{half, quarter, half, 4, 8}, api.Frac{Num: 9, Den: 2}},
	} {
		if f, e := x.s.price(x.p); f != x.want || e != api.OK {
			t.Error(x, f, e)
		}
	}
}

// P2.6
func TestPrices(t *testing.T) {
	d := &dice{4}
	for _, s := range someSorts() {
		for n := 1; n <= 6; n++ {
			single, _ := lots.Single(n, d.from(0, n-1))
			short, _ := lots.Short(n, d.from(0, n-1))
			for _, p := range []lots.Plan{single, short, d.plan(n, true), d.plan(n, false)} {
				if f, e := s.price(p); f != fracOf(s.refPlanPrice(p)) || e != api.OK {
					t.Error(s, p, f, e)
				}
				other := s
				other.good, other.bad = s.bad, s.good
				if f, e := other.price(p); f != fracOf(other.refPlanPrice(p)) || e != api.OK {
					t.Error(other, p, f, e)
				}
			}
		}
	}
}

// P2.6
func TestWiseExamples(t *testing.T) {
	none, half, sure := lots.Chance{Yes: 0, Of: 1}, lots.Chance{Yes: 1, Of: 2}, lots.Chance{Yes: 1, Of: 1}
	third := lots.Chance{Yes: 1, Of: 3}
	for _, x := range []struct {
		n    int
		s    sorts
		want api.Frac
	}{
		// One look tells all.
		{3, sorts{none, sure, half, 10, 10}, api.Frac{Num: 1, Den: 1}},
		{1, sorts{none, sure, half, 100, 100}, api.Frac{Num: 1, Den: 1}},
		// Looks tell nothing; so one is made, then what is cheaper.
		{6, sorts{half, half, half, 10, 12}, api.Frac{Num: 6, Den: 1}},
		{6, sorts{half, half, half, 12, 10}, api.Frac{Num: 6, Den: 1}},
		{6, sorts{half, sure, none, 100, 100}, api.Frac{Num: 1, Den: 1}},
		// A good item tells all, a bad one leaves 1/3 and 2/3: then it is 1/3 of the price to leave, or one more look for what is left.
		{1, sorts{half, sure, half, 12, 12}, api.Frac{Num: 4, Den: 1}},
		{2, sorts{half, sure, half, 12, 12}, api.Frac{Num: 13, Den: 4}},
		{1, sorts{third, half, half, 0, 100}, api.Frac{Num: 1, Den: 1}},
	} {
		if f, e := x.s.wise(x.n); f != x.want || e != api.OK {
			t.Error(x, f, e)
		}
	}
}

// P2.6, P2.12: no way to stop is cheaper than Wise, and a plan is as cheap.
func TestWises(t *testing.T) {
	for _, s := range someSorts() {
		for n := 1; n <= 6; n++ {
			want := fracOf(s.refWise(n))
			if f, e := s.wise(n); f != want || e != api.OK {
				t.Error(s, n, f, e)
			}
			p := s.refWisePlan(n)
			if f, e := s.price(p); f != want || e != api.OK {
				t.Error(s, n, p, f, e)
			}
		}
	}
}

// P2.12: of all plans the cheapest one costs as much as Wise.
func TestWiseIsThePriceOfTheCheapestPlan(t *testing.T) {
	for i, s := range someSorts() {
		for n := 1; n <= 3; n++ {
			if n == 3 && i%4 > 0 { // to save time
				continue
			}
			checkWise(t, s, n, plansOf(n))
		}
	}
	d := &dice{5}
	for range 2 {
		checkWise(t, d.sorts(), 4, plansOf(4))
	}
}

func checkWise(t *testing.T, s sorts, n int, l []lots.Plan) {
	f, e := s.wise(n)
	least := big.NewRat(1000, 1)
	for _, p := range l {
		g, e := s.price(p)
		if e != api.OK {
			t.Fatal(s, p, e)
		}
		if x := rat(g.Num, g.Den); x.Cmp(least) < 0 {
			least = x
		}
	}
	if f != fracOf(least) || e != api.OK {
		t.Error(s, n, f, e, least)
	}
}

// P2.12: ways to stop that are no plans, as they do not go by the number of bad items alone.
func TestWiseIsAtMostThePriceOfAnyWayToStop(t *testing.T) {
	d := &dice{6}
	for _, s := range someSorts() {
		for n := 2; n <= 6; n++ {
			w, _ := s.wise(n)
			for range 3 {
				run := d.way(n)
				r := refRuns(n, run)
				price := s.refPrice(average(n, r.taken, s.good), average(n, r.looks, s.good), average(n, r.taken, s.bad), average(n, r.looks, s.bad))
				if price.Cmp(rat(w.Num, w.Den)) < 0 {
					t.Error(s, n, w, price)
				}
			}
		}
	}
}

// way returns a way to stop after 1 to n items; what it does after some of them is drawn by lot.
func (d *dice) way(n int) func([]bool) (int, bool) {
	stop, take := map[string]bool{}, map[string]bool{}
	name := func(items []bool) string {
		s := ""
		for _, bad := range items {
			s += map[bool]string{true: "b", false: "g"}[bad]
		}
		return s
	}
	for _, x := range items(n) {
		for k := 1; k <= n; k++ {
			if _, ok := stop[name(x[:k])]; !ok {
				stop[name(x[:k])], take[name(x[:k])] = d.from(0, 2) == 0 || k == n, d.from(0, k) >= numberOfBad(x[:k])
			}
		}
	}
	return func(items []bool) (int, bool) {
		k := 1
		for !stop[name(items[:k])] {
			k++
		}
		return k, take[name(items[:k])]
	}
}

// P2.6: ErrArg for each argument that is not valid.
func TestPriceErrors(t *testing.T) {
	good := sorts{lots.Chance{Yes: 1, Of: 4}, lots.Chance{Yes: 1, Of: 2}, lots.Chance{Yes: 1, Of: 2}, 4, 8}
	price := func(s sorts, p lots.Plan) {
		if f, e := s.price(p); f != (api.Frac{}) || e != api.ErrArg {
			t.Error(s, p, f, e)
		}
	}
	wise := func(s sorts, n int) {
		if f, e := s.wise(n); f != (api.Frac{}) || e != api.ErrArg {
			t.Error(s, n, f, e)
		}
	}
	for _, p := range badPlans() {
		price(good, p)
	}
	for n := 1; n <= 12; n++ {
		p, _ := lots.Short(n, 0)
		if f, e := good.price(p); (e == api.OK) != (n <= 6) {
			t.Error(p, f, e)
		}
		if n > 6 {
			price(good, p)
			wise(good, n)
		}
	}
	for _, n := range outside(1, 6) {
		wise(good, n)
	}
	for n := 1; n <= 6; n++ {
		p, _ := lots.Single(n, 0)
		for _, s := range badSorts(good) {
			price(s, p)
			wise(s, n)
		}
	}
}

// badSorts returns the lots with one argument that is not valid.
func badSorts(good sorts) []sorts {
	var l []sorts
	for _, c := range badChances() {
		one, two, three := good, good, good
		one.good, two.bad, three.w = c, c, c
		l = append(l, one, two, three)
	}
	for _, n := range outside(0, 100) {
		one, two := good, good
		one.take, two.leave = n, n
		l = append(l, one, two)
	}
	return l
}

// P2.6: for Wise the first sort is no worse than the second one, as fractions, not as pairs.
func TestWiseOfExchangedSorts(t *testing.T) {
	for _, good := range chances() {
		for _, bad := range chances() {
			want := api.OK
			if ratOf(good).Cmp(ratOf(bad)) > 0 {
				want = api.ErrArg
			}
			f, e := lots.Wise(1, good, bad, lots.Chance{Yes: 1, Of: 2}, 1, 1)
			if e != want || (f == api.Frac{}) != (want != api.OK) {
				t.Error(good, bad, f, e)
			}
		}
	}
}

// Rule 4: no argument is changed, and a result shares no memory with one or with another result.
func TestMemory(t *testing.T) {
	p := lots.Plan{Take: []int{-1, 0, 1}, Leave: []int{2, 2, 2}}
	old, items := clone(p), []bool{true, false, true}
	c := lots.Chance{Yes: 1, Of: 3}
	for range 2 {
		lots.Taken(p, c)
		lots.Looks(p, c)
		lots.Run(p, items)
		lots.Price(p, c, c, c, 1, 1)
		for _, build := range []func() (lots.Plan, api.Errno){
			func() (lots.Plan, api.Errno) { return lots.Turn(p) },
			func() (lots.Plan, api.Errno) { return lots.Single(3, 1) },
			func() (lots.Plan, api.Errno) { return lots.Short(3, 1) },
		} {
			q, _ := build()
			want := clone(q)
			q.Take, q.Leave = append(q.Take, 77), append(q.Leave, 77)
			for i := range q.Take {
				q.Take[i] = 99
			}
			if slices.Contains(q.Leave, 99) {
				t.Error(q)
			}
			for i := range q.Leave {
				q.Leave[i] = 98
			}
			if again, _ := build(); !same(again, want) {
				t.Error(again, want)
			}
		}
		if !same(p, old) || !slices.Equal(items, []bool{true, false, true}) {
			t.Fatal(p, items)
		}
	}
}

// Rule 2: the same calls give the same results, whatever the order in which a map is ranged over.
func TestSameCallsGiveSameResults(t *testing.T) {
	p, _ := lots.Single(12, 4)
	c := lots.Chance{Yes: 5, Of: 11}
	taken, _ := lots.Taken(p, c)
	looks, _ := lots.Looks(p, c)
	for range 50 {
		if f, e := lots.Taken(p, c); f != taken || e != api.OK {
			t.Error(f, e)
		}
		if f, e := lots.Looks(p, c); f != looks || e != api.OK {
			t.Error(f, e)
		}
	}
}
