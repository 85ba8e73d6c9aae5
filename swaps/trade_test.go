package swaps_test

import (
	"slices"
	"testing"

	"comfit/api"
	"comfit/swaps"
)

// P9.1, Example 1
func TestTradeExamples(t *testing.T) {
	for _, x := range []struct {
		wishes       [][]int
		deal, rounds []int
	}{
		{[][]int{{0}}, []int{0}, []int{1}},
		{both, []int{1, 0}, []int{1, 1}},
		{[][]int{{0, 1}, {0, 1}}, []int{0, 1}, []int{1, 2}},
		{[][]int{{1, 0}, {1, 0}}, []int{0, 1}, []int{2, 1}},
		{three, []int{0, 1, 2}, []int{2, 1, 3}},
		{weak, []int{1, 0, 2}, []int{1, 1, 2}},
		{[][]int{{1, 0, 2}, {2, 0, 1}, {0, 2, 1}}, []int{1, 2, 0}, []int{1, 1, 1}},
		{[][]int{{2, 1, 0}, {0, 2, 1}, {1, 0, 2}}, []int{2, 0, 1}, []int{1, 1, 1}},
		{[][]int{{1, 0, 2, 3}, {0, 1, 2, 3}, {3, 2, 1, 0}, {2, 3, 0, 1}}, []int{1, 0, 3, 2}, []int{1, 1, 1, 1}},
		{[][]int{{1, 2, 3, 0}, {1, 0, 2, 3}, {1, 0, 2, 3}, {1, 2, 0, 3}}, []int{2, 1, 0, 3}, []int{2, 1, 2, 3}},
		{[][]int{{5, 4, 3, 2, 1, 0}, {5, 4, 3, 2, 1, 0}, {5, 4, 3, 2, 1, 0}, {5, 4, 3, 2, 1, 0}, {5, 4, 3, 2, 1, 0}, {5, 4, 3, 2, 1, 0}}, []int{0, 1, 2, 3, 4, 5}, []int{6, 5, 4, 3, 2, 1}},
		{[][]int{{1, 0, 2, 3, 4, 5}, {2, 0, 1, 3, 4, 5}, {3, 0, 1, 2, 4, 5}, {4, 0, 1, 2, 3, 5}, {5, 0, 1, 2, 3, 4}, {0, 1, 2, 3, 4, 5}}, []int{1, 2, 3, 4, 5, 0}, []int{1, 1, 1, 1, 1, 1}},
		{[][]int{{3, 0, 1, 2, 4, 5}, {3, 2, 0, 1, 4, 5}, {3, 1, 0, 2, 4, 5}, {3, 0, 1, 2, 4, 5}, {3, 1, 5, 0, 2, 4}, {4, 0, 1, 2, 3, 5}}, []int{0, 2, 1, 3, 5, 4}, []int{2, 2, 2, 1, 3, 3}},
	} {
		if deal, e := swaps.Trade(x.wishes); !slices.Equal(deal, x.deal) || e != api.OK {
			t.Error(x.wishes, deal, e)
		}
		if rounds, e := swaps.Rounds(x.wishes); !slices.Equal(rounds, x.rounds) || e != api.OK {
			t.Error(x.wishes, rounds, e)
		}
	}
}

// P9.1
func TestTrade(t *testing.T) {
	rounds := [7]int{}
	all := slices.Concat(chosenWishes(), fewWishes(), drawnWishes(1, 4000, 4, 6))
	for i, w := range allWishes(4) {
		if i%23 == 0 {
			all = append(all, w)
		}
	}
	for _, w := range all {
		deal, when := refTrade(w)
		if l, e := swaps.Trade(w); !slices.Equal(l, deal) || e != api.OK {
			t.Error(w, l, e, deal)
		}
		if l, e := swaps.Rounds(w); !slices.Equal(l, when) || e != api.OK {
			t.Error(w, l, e, when)
		}
		rounds[slices.Max(when)]++
	}
	for n := 1; n <= 6; n++ {
		if rounds[n] < 100 {
			t.Error("too few wishes with so many rounds", n, rounds[n])
		}
	}
}

// P9.6
func TestLieExamples(t *testing.T) {
	for _, x := range []struct {
		wishes    [][]int
		collector int
		other     []int
		honest    int
		lied      int
	}{
		{[][]int{{0}}, 0, []int{0}, 0, 0},
		{both, 0, []int{1, 0}, 0, 0},
		{both, 0, []int{0, 1}, 0, 1},
		{both, 1, []int{1, 0}, 0, 1},
		{three, 2, []int{1, 0, 2}, 2, 2},
		{three, 0, []int{2, 0, 1}, 1, 2},
		{three, 1, []int{0, 1, 2}, 0, 1},
		{three, 1, []int{2, 0, 1}, 0, 2},
		{weak, 1, []int{2, 0, 1}, 0, 1},
		{weak, 2, []int{0, 1, 2}, 1, 1},
	} {
		honest, lied, e := swaps.Lie(x.wishes, x.collector, x.other)
		if honest != x.honest || lied != x.lied || e != api.OK {
			t.Error(x, honest, lied, e)
		}
	}
}

// checkLie holds Lie against two trades, and reports whether the lie makes it worse. P9.6, P9.9
func checkLie(t *testing.T, w [][]int, i int, other []int) bool {
	t.Helper()
	said := slices.Clone(w)
	said[i] = other
	honest, _ := refTrade(w)
	lied, _ := refTrade(said)
	a, b, e := swaps.Lie(w, i, other)
	if a != slices.Index(w[i], honest[i]) || b != slices.Index(w[i], lied[i]) || e != api.OK {
		t.Error(w, i, other, a, b, e, honest, lied)
	}
	if b < a {
		t.Error("a lie helps:", w, i, other, a, b)
	}
	return b > a
}

// P9.6, P9.9
func TestLie(t *testing.T) {
	worse := 0
	for _, w := range slices.Concat(fewWishes(), drawnWishes(2, 14, 4, 5)) {
		for i := range w {
			for _, other := range orders[len(w)] {
				if checkLie(t, w, i, other) {
					worse++
				}
			}
		}
	}
	d := &dice{3}
	for _, w := range drawnWishes(4, 3000, 4, 6) {
		i := d.from(0, len(w)-1)
		other := slices.Clone(w[i])
		if d.from(0, 1) == 0 {
			other = d.order(len(w))
		}
		at := d.from(1, len(w)-1)
		other[0], other[at] = other[at], other[0]
		if checkLie(t, w, i, other) {
			worse++
		}
	}
	if worse < 3000 {
		t.Error("too few lies", worse)
	}
}
