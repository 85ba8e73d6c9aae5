package lots

import "comfit/api"

// task is a lot of one of two sorts, of the first with the chance w, with the prices of taking one of the second sort and of leaving one of the first.
type task struct {
	good, bad, w Chance
	take, leave  int
}

// price returns the average price of a plan.
func (t task) price(p Plan) api.Frac {
	a, b := p.count(t.good), p.count(t.bad)
	all := t.w.Of * a.all * b.all
	first := t.w.part(all)
	second := all - first
	sum := first/a.all*(a.looks+t.leave*(a.all-a.taken)) + second/b.all*(b.looks+t.take*b.taken)
	return fraction(sum, all)
}

// least returns the least average price with at most n looks, the first of which is always made.
//
// It is the least over all ways to stop. As bad items are no more likely in a lot of the first sort, more of them speak
// for the second sort: so among the best ways is one that takes lots with few bad items, leaves those with many and
// goes on between, which is a plan.
func (t task) least(n int) api.Frac {
	all := t.w.Of
	for range n {
		all *= t.good.Of * t.bad.Of // so that each look parts both sorts without a rest
	}
	first := t.w.part(all)
	return fraction(t.look(n, first, all-first), all)
}

// look returns the least price of looking at one of left items and going on from there, for so many lots of each sort.
func (t task) look(left, first, second int) int {
	badFirst, badSecond := t.good.part(first), t.bad.part(second)
	price := first + second
	price += t.best(left-1, badFirst, badSecond)
	price += t.best(left-1, first-badFirst, second-badSecond)
	return price
}

// best returns the least price of taking, leaving or looking at one of left items, for so many lots of each sort.
func (t task) best(left, first, second int) int {
	price := min(t.take*second, t.leave*first)
	if left > 0 {
		price = min(price, t.look(left, first, second))
	}
	return price
}
