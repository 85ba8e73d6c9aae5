package swaps_test

import (
	"math"
	"slices"
)

// dice is a row of numbers that look as if drawn by lot, the same in every run.
type dice struct{ at uint32 }

func (d *dice) from(low, high int) int {
	d.at = d.at*1664525 + 1013904223
	return low + int(d.at>>8)%(high-low+1)
}

// order returns the numbers below n in a drawn order.
func (d *dice) order(n int) []int {
	var l []int
	for i := range n {
		l = slices.Insert(l, d.from(0, i), i)
	}
	return l
}

// wishes returns those of n collectors. They agree the more, the fewer steps away from one order they may be.
func (d *dice) wishes(n, steps int) [][]int {
	first := d.order(n)
	var w [][]int
	for range n {
		l := slices.Clone(first)
		for range steps {
			i, j := d.from(0, n-1), d.from(0, n-1)
			l[i], l[j] = l[j], l[i]
		}
		w = append(w, l)
	}
	return w
}

// ordersOf returns all orders of the numbers below n, rising.
func ordersOf(n int) [][]int {
	if n == 0 {
		return [][]int{{}}
	}
	var l [][]int
	for _, p := range ordersOf(n - 1) {
		for at := range n {
			l = append(l, slices.Insert(slices.Clone(p), at, n-1))
		}
	}
	slices.SortFunc(l, slices.Compare)
	return l
}

// orders are those of the numbers below 0 to 6.
var orders = [][][]int{ordersOf(0), ordersOf(1), ordersOf(2), ordersOf(3), ordersOf(4), ordersOf(5), ordersOf(6)}

// allWishes returns all wishes of n collectors.
func allWishes(n int) [][][]int {
	l := [][][]int{nil}
	for range n {
		var longer [][][]int
		for _, w := range l {
			for _, order := range orders[n] {
				longer = append(longer, append(slices.Clone(w), order))
			}
		}
		l = longer
	}
	return l
}

// fewWishes returns all wishes of up to 3 collectors.
func fewWishes() [][][]int { return slices.Concat(allWishes(1), allWishes(2), allWishes(3)) }

// drawnWishes returns some of each number of collectors from low to high, some of which agree.
func drawnWishes(seed uint32, each, low, high int) [][][]int {
	d := &dice{seed}
	var l [][][]int
	for n := low; n <= high; n++ {
		for i := range each {
			l = append(l, d.wishes(n, i%7))
		}
	}
	return l
}

// drawnRings returns wishes where some collectors like the card of the next one of a ring best, and all of them like none but these better than their own.
// So their own cards are a deal that only sets with the whole ring block.
func drawnRings(seed uint32, each int) [][][]int {
	d := &dice{seed}
	var l [][][]int
	for n := 2; n <= 6; n++ {
		for i := range each * n {
			w := d.wishes(n, 3)
			for j := range w {
				w[j] = toFront(w[j], j)
			}
			ring := d.order(n)[:i%n+1]
			for at, j := range ring {
				w[j] = toFront(w[j], ring[(at+1)%len(ring)])
			}
			l = append(l, w)
		}
	}
	return l
}

// toFront returns an order with one number put to its front.
func toFront(order []int, i int) []int {
	at := slices.Index(order, i)
	return slices.Concat([]int{i}, order[:at], order[at+1:])
}

// chosenWishes returns wishes that are all alike, that make one large circle, and where everybody keeps their card.
func chosenWishes() [][][]int {
	l := [][][]int{three, both, {{0}}}
	for n := 2; n <= 6; n++ {
		var alike, circle, own [][]int
		for i := range n {
			order := orders[n][0]
			alike = append(alike, order)
			circle = append(circle, slices.Concat(order[(i+1)%n:], order[:(i+1)%n]))
			own = append(own, slices.Concat(order[i:], order[:i]))
		}
		l = append(l, alike, circle, own)
	}
	return l
}

var (
	three = [][]int{{1, 0, 2}, {1, 0, 2}, {0, 1, 2}}
	both  = [][]int{{1, 0}, {0, 1}}
	// In weak, 0 and 1 block the deal 2 0 1, but not strongly: 1 has the best card.
	weak = [][]int{{1, 2, 0}, {0, 2, 1}, {1, 2, 0}}
)

// outside returns numbers below low and above high.
func outside(low, high int) []int {
	return []int{low - 1, low - 2, high + 1, high + 2, -1 << 32, 1 << 32, 1<<62 + 1, math.MinInt, math.MinInt + 1, math.MaxInt, math.MaxInt - 1}
}

// badOrders returns slices that do not have all numbers below n, each once.
func badOrders(n int) [][]int {
	order := orders[n][len(orders[n])/2]
	l := [][]int{nil, {}, order[1:], append(slices.Clone(order), n), append(slices.Clone(order), order[0]), append([]int{-1}, order...), make([]int, 1<<16)}
	if n > 1 {
		l = append(l, make([]int, n), slices.Repeat([]int{n - 1}, n))
	}
	for at := range n {
		for _, bad := range outside(0, n-1) {
			l = append(l, slices.Clone(order))
			l[len(l)-1][at] = bad
		}
		if n > 1 {
			l = append(l, slices.Clone(order))
			l[len(l)-1][at] = order[(at+1)%n]
		}
	}
	return l
}

// badWishes returns wishes that are not valid.
func badWishes() [][][]int {
	seven := []int{0, 1, 2, 3, 4, 5, 6}
	l := [][][]int{nil, {}, {nil}, {{}}, {nil, nil}, {{0}, {0}}, {{0, 1}}, {{0, 1}, {0}}, {{0}, {0, 1}}, {{0, 1}, {1, 0}, {0, 1}}, slices.Repeat([][]int{seven}, 7), make([][]int, 7), make([][]int, 1<<16)}
	for n := 1; n <= 6; n++ {
		for at := range n {
			for _, bad := range badOrders(n) {
				w := slices.Repeat(orders[n][:1], n)
				w[at] = bad
				l = append(l, w)
			}
		}
	}
	return l
}

// net returns the sets of n collectors, each of which has a collector with so many of 8 chances.
func (d *dice) net(n, chances int) []int {
	net := make([]int, n)
	for i := range n {
		for j := range n {
			if i != j && d.from(1, 8) <= chances {
				net[i] |= 1 << j
			}
		}
	}
	return net
}

// allNets returns all nets of n collectors.
func allNets(n int) [][]int {
	l := [][]int{nil}
	for i := range n {
		var longer [][]int
		for _, net := range l {
			for set := range 1 << n {
				if set>>i&1 == 0 {
					longer = append(longer, append(slices.Clone(net), set))
				}
			}
		}
		l = longer
	}
	return l
}

// fullNet returns the net where each card helps everybody else.
func fullNet(n int) []int {
	var net []int
	for i := range n {
		net = append(net, 1<<n-1-1<<i)
	}
	return net
}

// nets returns all those of up to 4 collectors, and drawn ones of more.
func nets() [][]int {
	l := slices.Concat(allNets(1), allNets(2), allNets(3), allNets(4), [][]int{fullNet(5), fullNet(6)})
	d := &dice{1}
	for i := range 1400 {
		l = append(l, d.net(5, i%7+1), d.net(6, i%7+1))
	}
	return l
}

// badNets returns nets that are not valid.
func badNets() [][]int {
	l := [][]int{nil, {}, {1}, {2}, {-1}, {0, 2}, {1, 0}, {2, 3}, {2, 4}, {4, 1}, make([]int, 7), make([]int, 1<<16), {2, 5, 7}, {2, 5, 8}, {3, 5, 3}}
	for n := 1; n <= 6; n++ {
		for at := range n {
			for _, bad := range append(outside(0, 1<<n-1), 1<<at, 1<<n-1) {
				net := fullNet(n)
				net[at] = bad
				l = append(l, net)
			}
		}
	}
	return l
}
