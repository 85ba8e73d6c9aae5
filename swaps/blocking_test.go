package swaps_test

import (
	"math/bits"
	"slices"
	"testing"

	"comfit/api"
	"comfit/swaps"
)

// checkSet holds the result of Block or Strong against a set, or ErrNone if that is 0.
func checkSet(t *testing.T, name string, w [][]int, deal []int, set int, e api.Errno, want int) {
	t.Helper()
	if set != want || (e == api.OK) != (want > 0) || (e == api.ErrNone) != (want == 0) {
		t.Error(name, w, deal, set, e, want)
	}
}

// checkDeal holds the functions of a deal against what they should find. P9.2, P9.3, P9.5
func checkDeal(t *testing.T, w [][]int, deal []int, least, strong int, waste, order []int) {
	t.Helper()
	set, e := swaps.Block(w, deal)
	checkSet(t, "Block", w, deal, set, e, least)
	set, e = swaps.Strong(w, deal)
	checkSet(t, "Strong", w, deal, set, e, strong)
	other, e := swaps.Waste(w, deal)
	if !slices.Equal(other, waste) || (e == api.OK) != (waste != nil) || (e == api.ErrNone) != (waste == nil) {
		t.Error("Waste", w, deal, other, e, waste)
	}
	l, e := swaps.Order(w, deal)
	if !slices.Equal(l, order) || (e == api.OK) != (order != nil) || (e == api.ErrNone) != (order == nil) {
		t.Error("Order", w, deal, l, e, order)
	}
}

// P9.2, P9.3, P9.5
func TestDealExamples(t *testing.T) {
	circle := [][]int{{1, 2, 0}, {2, 0, 1}, {0, 1, 2}}
	for _, x := range []struct {
		wishes        [][]int
		deal          []int
		least, strong int
		waste, order  []int
	}{
		{[][]int{{0}}, []int{0}, 0, 0, nil, []int{0}},
		{both, []int{0, 1}, 3, 3, []int{1, 0}, nil},
		{both, []int{1, 0}, 0, 0, nil, []int{0, 1}},
		{[][]int{{1, 0}, {1, 0}}, []int{1, 0}, 2, 2, nil, []int{0, 1}},
		{[][]int{{1, 0}, {1, 0}}, []int{0, 1}, 0, 0, nil, []int{1, 0}},
		{three, []int{0, 1, 2}, 0, 0, nil, []int{1, 0, 2}},
		{three, []int{1, 0, 2}, 2, 2, nil, []int{0, 1, 2}},
		{three, []int{1, 2, 0}, 2, 2, nil, []int{0, 2, 1}},
		{weak, []int{2, 0, 1}, 3, 0, nil, []int{1, 2, 0}},
		{weak, []int{1, 0, 2}, 0, 0, nil, []int{0, 1, 2}},
		{weak, []int{2, 1, 0}, 3, 3, []int{1, 0, 2}, nil}, // 2 alone, set 4, blocks it, too
		{weak, []int{0, 2, 1}, 3, 3, []int{2, 0, 1}, nil},
		{circle, []int{0, 1, 2}, 3, 3, []int{0, 2, 1}, nil},
		{circle, []int{2, 0, 1}, 3, 7, []int{1, 2, 0}, nil}, // 0 and 1 block it, but 1 gets the same card
		{circle, []int{1, 2, 0}, 0, 0, nil, []int{0, 1, 2}},
		{circle, []int{1, 0, 2}, 6, 6, []int{1, 2, 0}, nil},
	} {
		checkDeal(t, x.wishes, x.deal, x.least, x.strong, x.waste, x.order)
	}
}

// checkDeals holds the functions of a deal against the reference, and counts the members of the least sets.
func checkDeals(t *testing.T, w [][]int, deals [][]int, members *[2][7]int) {
	t.Helper()
	for _, deal := range deals {
		least, strong := refLeast(w, deal)
		checkDeal(t, w, deal, least, strong, refWaste(w, deal), refOrder(w, deal))
		members[0][bits.OnesCount(uint(least))]++
		members[1][bits.OnesCount(uint(strong))]++
	}
}

// P9.2, P9.3, P9.5
func TestDeals(t *testing.T) {
	var members [2][7]int
	for _, w := range fewWishes() {
		checkDeals(t, w, orders[len(w)], &members)
	}
	for _, w := range slices.Concat(drawnWishes(5, 60, 4, 4), drawnWishes(6, 7, 5, 5)) {
		checkDeals(t, w, orders[len(w)], &members)
	}
	d := &dice{7}
	for _, w := range slices.Concat(chosenWishes(), drawnWishes(8, 70, 4, 6)) {
		deal, _ := refTrade(w)
		// With one swap more or less, a deal by trading is blocked by larger sets than others.
		i, j := d.from(0, len(w)-1), d.from(0, len(w)-1)
		near := slices.Clone(deal)
		near[i], near[j] = near[j], near[i]
		checkDeals(t, w, [][]int{deal, near, d.order(len(w)), refTurns(w, d.order(len(w))), orders[len(w)][0]}, &members)
	}
	for _, w := range drawnRings(24, 20) {
		checkDeals(t, w, [][]int{orders[len(w)][0], d.order(len(w))}, &members)
	}
	for n := range 7 {
		if members[0][n] < 10 || members[1][n] < 10 {
			t.Error("too few sets with so many members", n, members)
		}
	}
}

// P9.4, Example 1
func TestCoreExamples(t *testing.T) {
	for _, x := range []struct{ wishes, core [][]int }{
		{[][]int{{0}}, [][]int{{0}}},
		{both, [][]int{{1, 0}}},
		{three, [][]int{{0, 1, 2}}},
		{weak, [][]int{{1, 0, 2}, {2, 0, 1}}},
		{[][]int{{1, 2, 0}, {0, 2, 1}, {1, 0, 2}}, [][]int{{1, 0, 2}, {1, 2, 0}, {2, 0, 1}}},
		{[][]int{{1, 0, 2, 3, 4}, {0, 1, 2, 3, 4}, {2, 0, 1, 3, 4}, {4, 0, 1, 2, 3}, {3, 0, 1, 2, 4}}, [][]int{{1, 0, 2, 4, 3}}},
	} {
		if l, e := swaps.Core(x.wishes); !slices.EqualFunc(l, x.core, slices.Equal) || e != api.OK {
			t.Error(x.wishes, l, e)
		}
	}
}

// P9.4
func TestCore(t *testing.T) {
	larger := 0
	for _, w := range slices.Concat(fewWishes(), drawnWishes(9, 500, 4, 4), drawnWishes(10, 70, 5, 5)) {
		want := refCore(w)
		if l, e := swaps.Core(w); !slices.EqualFunc(l, want, slices.Equal) || e != api.OK {
			t.Error(w, l, e, want)
		}
		if len(want) > 1 {
			larger++
		}
	}
	if larger < 200 {
		t.Error("too few cores with several deals", larger)
	}
}

// P9.5
func TestTurnsExamples(t *testing.T) {
	for _, x := range []struct {
		wishes      [][]int
		order, deal []int
	}{
		{[][]int{{0}}, []int{0}, []int{0}},
		{both, []int{0, 1}, []int{1, 0}},
		{[][]int{{1, 0}, {1, 0}}, []int{0, 1}, []int{1, 0}},
		{[][]int{{1, 0}, {1, 0}}, []int{1, 0}, []int{0, 1}},
		{three, []int{2, 0, 1}, []int{1, 2, 0}},
		{three, []int{0, 1, 2}, []int{1, 0, 2}},
		{three, []int{1, 2, 0}, []int{2, 1, 0}},
		{weak, []int{2, 1, 0}, []int{2, 0, 1}},
		{weak, []int{2, 0, 1}, []int{2, 0, 1}},
	} {
		if deal, e := swaps.Turns(x.wishes, x.order); !slices.Equal(deal, x.deal) || e != api.OK {
			t.Error(x.wishes, x.order, deal, e)
		}
	}
}

// P9.5
func TestTurns(t *testing.T) {
	for _, w := range slices.Concat(chosenWishes(), fewWishes(), drawnWishes(11, 30, 4, 6)) {
		for _, order := range orders[len(w)] {
			want := refTurns(w, order)
			if deal, e := swaps.Turns(w, order); !slices.Equal(deal, want) || e != api.OK {
				t.Error(w, order, deal, e, want)
			}
		}
	}
}
