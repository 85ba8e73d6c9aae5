package lots_test

import (
	"math/big"

	"comfit/api"
	"comfit/lots"
)

// What the document says, worked out in the plainest way, to hold against the package.

func rat(num, den int) *big.Rat { return big.NewRat(int64(num), int64(den)) }

func ratOf(c lots.Chance) *big.Rat { return rat(c.Yes, c.Of) }

// rest returns 1 less x.
func rest(x *big.Rat) *big.Rat { return new(big.Rat).Sub(rat(1, 1), x) }

func product(l ...*big.Rat) *big.Rat {
	x := rat(1, 1)
	for _, y := range l {
		x.Mul(x, y)
	}
	return x
}

func sum(l ...*big.Rat) *big.Rat {
	x := new(big.Rat)
	for _, y := range l {
		x.Add(x, y)
	}
	return x
}

func power(x *big.Rat, n int) *big.Rat {
	y := rat(1, 1)
	for range n {
		y.Mul(y, x)
	}
	return y
}

func binomial(n, k int) *big.Rat {
	return new(big.Rat).SetInt(new(big.Int).Binomial(int64(n), int64(k)))
}

// fracOf returns x in lowest terms, as big.Rat keeps it.
func fracOf(x *big.Rat) api.Frac {
	return api.Frac{Num: int(x.Num().Int64()), Den: int(x.Denom().Int64())}
}

func refRun(p lots.Plan, items []bool) (int, bool) {
	bad := 0
	for i := range items {
		if items[i] {
			bad++
		}
		if bad <= p.Take[i] {
			return i + 1, true
		}
		if bad >= p.Leave[i] {
			return i + 1, false
		}
	}
	panic("it does not end")
}

// runs is a sum over all slices of items that a plan may get, for each number of bad ones among them.
type runs struct{ taken, looks [13]int }

// refRuns sums up what run does.
func refRuns(n int, run func([]bool) (int, bool)) runs {
	var r runs
	for _, x := range items(n) {
		bad := numberOfBad(x)
		looked, taken := run(x)
		r.looks[bad] += looked
		if taken {
			r.taken[bad]++
		}
	}
	return r
}

// average returns the average of numbers that stand for slices of n items.
func average(n int, l [13]int, bad lots.Chance) *big.Rat {
	x := new(big.Rat)
	for b := range n + 1 {
		x.Add(x, product(rat(l[b], 1), power(ratOf(bad), b), power(rest(ratOf(bad)), n-b)))
	}
	return x
}

func refTaken(p lots.Plan, bad lots.Chance) *big.Rat {
	n := len(p.Take)
	return average(n, refRuns(n, func(x []bool) (int, bool) { return refRun(p, x) }).taken, bad)
}

func refLooks(p lots.Plan, bad lots.Chance) *big.Rat {
	n := len(p.Take)
	return average(n, refRuns(n, func(x []bool) (int, bool) { return refRun(p, x) }).looks, bad)
}

// refAtMost returns the chance that at most c of n items are bad.
func refAtMost(n, c int, bad lots.Chance) *big.Rat {
	x := new(big.Rat)
	for b := range c + 1 {
		x.Add(x, product(binomial(n, b), power(ratOf(bad), b), power(rest(ratOf(bad)), n-b)))
	}
	return x
}

// refFind returns the least n and c, or 0 0.
func refFind(good, bad, refuse, accept lots.Chance) [2]int {
	for n := 1; n <= 12; n++ {
		for c := range n {
			left, taken := rest(refAtMost(n, c, good)), refAtMost(n, c, bad)
			if left.Cmp(ratOf(refuse)) <= 0 && taken.Cmp(ratOf(accept)) <= 0 {
				return [2]int{n, c}
			}
		}
	}
	return [2]int{}
}

// sorts is a lot of one of two sorts, and its prices.
type sorts struct {
	good, bad, w lots.Chance
	take, leave  int
}

func (d *dice) sorts() sorts {
	s := sorts{d.chance(), d.chance(), d.chance(), d.from(0, 100), d.from(0, 100)}
	if d.from(0, 2) > 0 { // so that it is worth while to look
		s.w = lots.Chance{Yes: d.from(1, 3), Of: 4}
		s.take, s.leave = d.from(10, 100), d.from(10, 100)
	}
	if ratOf(s.good).Cmp(ratOf(s.bad)) > 0 {
		s.good, s.bad = s.bad, s.good
	}
	return s
}

// refPrice returns the price of what takes and looks so with the two sorts.
func (s sorts) refPrice(takenGood, looksGood, takenBad, looksBad *big.Rat) *big.Rat {
	first := sum(looksGood, product(rat(s.leave, 1), rest(takenGood)))
	second := sum(looksBad, product(rat(s.take, 1), takenBad))
	return sum(product(ratOf(s.w), first), product(rest(ratOf(s.w)), second))
}

func (s sorts) refPlanPrice(p lots.Plan) *big.Rat {
	return s.refPrice(refTaken(p, s.good), refLooks(p, s.good), refTaken(p, s.bad), refLooks(p, s.bad))
}

// masses returns the chances of a lot of each sort that begins with k items, b of them bad, in one order.
func (s sorts) masses(k, b int) (first, second *big.Rat) {
	first = product(ratOf(s.w), power(ratOf(s.good), b), power(rest(ratOf(s.good)), k-b))
	second = product(rest(ratOf(s.w)), power(ratOf(s.bad), b), power(rest(ratOf(s.bad)), k-b))
	return first, second
}

// ends returns the prices of taking and of leaving the lots that begin so.
func (s sorts) ends(k, b int) (take, leave *big.Rat) {
	first, second := s.masses(k, b)
	return product(rat(s.take, 1), second), product(rat(s.leave, 1), first)
}

// refGoOn returns the least price of going on after k of n items, with the price of all that is done later.
func (s sorts) refGoOn(n, k, b int) *big.Rat {
	return sum(sum(s.masses(k, b)), s.refBest(n, k+1, b), s.refBest(n, k+1, b+1))
}

func (s sorts) refBest(n, k, b int) *big.Rat {
	best, leave := s.ends(k, b)
	if leave.Cmp(best) < 0 {
		best = leave
	}
	if k < n {
		if on := s.refGoOn(n, k, b); on.Cmp(best) < 0 {
			best = on
		}
	}
	return best
}

// refWise returns the least price of all ways to stop after 1 to n items.
func (s sorts) refWise(n int) *big.Rat { return s.refGoOn(n, 0, 0) }

// refWisePlan returns a plan that does after each item what is best; among ways that are as good it ends.
func (s sorts) refWisePlan(n int) lots.Plan {
	var p lots.Plan
	for k := 1; k <= n; k++ {
		t, l := -1, n+1
		for b := range k + 1 {
			take, leave := s.ends(k, b)
			if take.Sign() == 0 && leave.Sign() == 0 && sum(s.masses(k, b)).Sign() == 0 {
				continue // this can't be
			}
			best := s.refBest(n, k, b)
			if take.Cmp(best) == 0 {
				t = b
			} else if leave.Cmp(best) == 0 {
				l = min(l, b)
			}
		}
		if k == n {
			l = t + 1
		}
		p.Take, p.Leave = append(p.Take, t), append(p.Leave, l)
	}
	return p
}
