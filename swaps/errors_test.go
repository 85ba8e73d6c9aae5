package swaps_test

import (
	"slices"
	"testing"

	"comfit/api"
	"comfit/swaps"
)

// checkBadDeal holds the functions of wishes and a deal, or an order, against ErrArg.
func checkBadDeal(t *testing.T, w [][]int, deal []int) {
	t.Helper()
	if set, e := swaps.Block(w, deal); set != 0 || e != api.ErrArg {
		t.Error("Block", w, deal, set, e)
	}
	if set, e := swaps.Strong(w, deal); set != 0 || e != api.ErrArg {
		t.Error("Strong", w, deal, set, e)
	}
	if l, e := swaps.Waste(w, deal); len(l) != 0 || e != api.ErrArg {
		t.Error("Waste", w, deal, l, e)
	}
	if l, e := swaps.Turns(w, deal); len(l) != 0 || e != api.ErrArg {
		t.Error("Turns", w, deal, l, e)
	}
	if l, e := swaps.Order(w, deal); len(l) != 0 || e != api.ErrArg {
		t.Error("Order", w, deal, l, e)
	}
}

func checkBadLie(t *testing.T, w [][]int, collector int, other []int) {
	t.Helper()
	if a, b, e := swaps.Lie(w, collector, other); a != 0 || b != 0 || e != api.ErrArg {
		t.Error("Lie", w, collector, other, a, b, e)
	}
}

// P9.1 to P9.6: ErrArg if the wishes are not valid, also where another argument is not.
func TestBadWishes(t *testing.T) {
	for _, w := range badWishes() {
		if l, e := swaps.Trade(w); len(l) != 0 || e != api.ErrArg {
			t.Error("Trade", w, l, e)
		}
		if l, e := swaps.Rounds(w); len(l) != 0 || e != api.ErrArg {
			t.Error("Rounds", w, l, e)
		}
		if l, e := swaps.Core(w); len(l) != 0 || e != api.ErrArg {
			t.Error("Core", w, l, e)
		}
		order := orders[min(len(w), 6)][0]
		checkBadDeal(t, w, order)
		checkBadDeal(t, w, nil)
		checkBadLie(t, w, 0, order)
		checkBadLie(t, w, -1, nil)
	}
}

// P9.2, P9.3, P9.5: ErrArg unless a deal is all cards, and an order all collectors, each once.
func TestBadDeals(t *testing.T) {
	for _, w := range chosenWishes() {
		for _, deal := range badOrders(len(w)) {
			checkBadDeal(t, w, deal)
		}
		for n := range 7 {
			if n != len(w) {
				checkBadDeal(t, w, orders[n][0])
			}
		}
	}
}

// P9.4: ErrArg also if there are more than 5 collectors.
func TestCoreOfMany(t *testing.T) {
	for _, w := range slices.Concat(chosenWishes(), drawnWishes(22, 7, 5, 6)) {
		l, e := swaps.Core(w)
		if len(w) == 6 && (len(l) != 0 || e != api.ErrArg) || len(w) < 6 && (len(l) == 0 || e != api.OK) {
			t.Error(w, l, e)
		}
	}
}

// P9.6: ErrArg also unless collector is one and other all cards, each once.
func TestBadLies(t *testing.T) {
	for _, w := range chosenWishes() {
		for _, bad := range outside(0, len(w)-1) {
			checkBadLie(t, w, bad, w[0])
			checkBadLie(t, w, bad, nil)
		}
		for _, other := range badOrders(len(w)) {
			for i := range w {
				checkBadLie(t, w, i, other)
			}
		}
		for n := range 7 {
			if n != len(w) {
				checkBadLie(t, w, 0, orders[n][0])
			}
		}
	}
}

// P9.7: ErrArg if the net is not valid, whatever CheckSwaps is to judge.
func TestBadNets(t *testing.T) {
	for _, net := range badNets() {
		if l, e := swaps.Circles(net); len(l) != 0 || e != api.ErrArg {
			t.Error("Circles", net, l, e)
		}
		if l, e := swaps.Swaps(net); len(l) != 0 || e != api.ErrArg {
			t.Error("Swaps", net, l, e)
		}
		for _, l := range [][][]int{nil, {}, {{0, 1}}, {{0, 1, 2}}, {nil}, {{-1, 99}}, {{0, 1}, {0, 1}}} {
			if n, ok, e := swaps.CheckSwaps(net, l); n != 0 || ok || e != api.ErrArg {
				t.Error("CheckSwaps", net, l, n, ok, e)
			}
		}
	}
}
