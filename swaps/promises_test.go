package swaps_test

import (
	"slices"
	"testing"

	"comfit/api"
	"comfit/swaps"
)

// someWishes returns wishes of which the promises are asked: those of 6 collectors take long, so they are few.
func someWishes() [][][]int {
	return slices.Concat(chosenWishes(), fewWishes(), drawnWishes(13, 400, 4, 4), drawnWishes(14, 42, 5, 5), drawnWishes(15, 14, 6, 6))
}

// P9.8
func TestTradeIsTheOnlyOne(t *testing.T) {
	for _, w := range someWishes() {
		trade, e := swaps.Trade(w)
		if e != api.OK {
			t.Fatal(w, e)
		}
		for i, card := range trade {
			if slices.Index(w[i], card) > slices.Index(w[i], i) {
				t.Error("worse off:", w, trade, i)
			}
		}
		for _, deal := range orders[len(w)] {
			want := api.OK
			if slices.Equal(deal, trade) {
				want = api.ErrNone
			}
			if set, e := swaps.Block(w, deal); e != want {
				t.Error(w, deal, trade, set, e)
			}
		}
		if len(w) > 5 {
			if set, e := swaps.Strong(w, trade); set != 0 || e != api.ErrNone {
				t.Error(w, trade, set, e)
			}
			continue
		}
		core, e := swaps.Core(w)
		if !slices.ContainsFunc(core, func(deal []int) bool { return slices.Equal(deal, trade) }) || e != api.OK {
			t.Error(w, trade, core, e)
		}
	}
}

// P9.10
func TestNoWaste(t *testing.T) {
	wasted, made := 0, 0
	for _, w := range someWishes() {
		trade, _ := swaps.Trade(w)
		if l, e := swaps.Waste(w, trade); len(l) != 0 || e != api.ErrNone {
			t.Error(w, trade, l, e)
		}
		for at, l := range orders[len(w)] {
			if len(w) == 6 && at%24 != 0 {
				continue
			}
			turns, e := swaps.Turns(w, l)
			if e != api.OK {
				t.Fatal(w, l, e)
			}
			if better, e := swaps.Waste(w, turns); len(better) != 0 || e != api.ErrNone {
				t.Error(w, turns, better, e)
			}
			_, waste := swaps.Waste(w, l)
			order, e := swaps.Order(w, l)
			if (waste == api.ErrNone) != (e == api.OK) || (waste == api.OK) != (e == api.ErrNone) {
				t.Error(w, l, waste, order, e)
			}
			if e != api.OK {
				wasted++
				continue
			}
			made++
			if deal, e := swaps.Turns(w, order); !slices.Equal(deal, l) || e != api.OK {
				t.Error(w, l, order, deal, e)
			}
		}
	}
	if wasted < 2000 || made < 2000 {
		t.Error("too few deals of a kind", wasted, made)
	}
}

// P9.11
func TestRoundsAreRight(t *testing.T) {
	for _, w := range slices.Concat(someWishes(), drawnWishes(16, 3000, 4, 6)) {
		deal, e := swaps.Trade(w)
		rounds, f := swaps.Rounds(w)
		if len(rounds) != len(w) || slices.Min(rounds) != 1 || e != api.OK || f != api.OK {
			t.Error(w, deal, rounds, e, f)
		}
		for i := range w {
			if rounds[i] == 1 && deal[i] != w[i][0] {
				t.Error("not the best:", w, deal, rounds, i)
			}
			for other := range w {
				if rounds[other] > rounds[i] && slices.Index(w[i], other) < slices.Index(w[i], deal[i]) {
					t.Error("a better one later:", w, deal, rounds, i, other)
				}
			}
		}
	}
}

func helped(t *testing.T, net []int) int {
	t.Helper()
	l, e := swaps.Swaps(net)
	n, ok, f := swaps.CheckSwaps(net, l)
	if !ok || e != api.OK || f != api.OK {
		t.Error(net, l, n, ok, e, f)
	}
	return n
}

// P9.12
func TestMoreWishesHelpNoFewer(t *testing.T) {
	more := 0
	for at, net := range nets() {
		if at%5 != 0 {
			continue
		}
		before := helped(t, net)
		for i := range net {
			for j := range net {
				if i == j || net[i]>>j&1 == 1 {
					continue
				}
				larger := slices.Clone(net)
				larger[i] |= 1 << j
				after := helped(t, larger)
				if after < before {
					t.Error(net, i, j, before, after)
				}
				if after > before {
					more++
				}
			}
		}
	}
	if more < 500 {
		t.Error("too few wishes that help more", more)
	}
}

// renamedDeal returns a deal where collector i, and card i, are called names[i].
func renamedDeal(deal, names []int) []int {
	l := make([]int, len(deal))
	for i, card := range deal {
		l[names[i]] = names[card]
	}
	return l
}

func renamedWishes(w [][]int, names []int) [][]int {
	l := make([][]int, len(w))
	for i := range w {
		for _, card := range w[i] {
			l[names[i]] = append(l[names[i]], names[card])
		}
	}
	return l
}

// P9.13
func TestRenaming(t *testing.T) {
	d := &dice{17}
	for _, w := range slices.Concat(someWishes(), drawnWishes(18, 1000, 4, 6)) {
		names := d.order(len(w))
		v := renamedWishes(w, names)
		deal, _ := swaps.Trade(w)
		if l, e := swaps.Trade(v); !slices.Equal(l, renamedDeal(deal, names)) || e != api.OK {
			t.Error(w, names, deal, l, e)
		}
	}
	for _, w := range slices.Concat(fewWishes(), drawnWishes(19, 150, 4, 4), drawnWishes(20, 35, 5, 5)) {
		names := d.order(len(w))
		core, _ := swaps.Core(w)
		var want [][]int
		for _, deal := range core {
			want = append(want, renamedDeal(deal, names))
		}
		slices.SortFunc(want, slices.Compare)
		if l, e := swaps.Core(renamedWishes(w, names)); !slices.EqualFunc(l, want, slices.Equal) || e != api.OK {
			t.Error(w, names, core, l, e)
		}
	}
}

// P5: renaming collectors does not change how many are helped.
func TestRenamedNets(t *testing.T) {
	d := &dice{21}
	for at, net := range nets() {
		if at%5 != 1 {
			continue
		}
		names := d.order(len(net))
		renamed := make([]int, len(net))
		for i, set := range net {
			for j := range net {
				renamed[names[i]] |= set >> j & 1 << names[j]
			}
		}
		if a, b := helped(t, net), helped(t, renamed); a != b {
			t.Error(net, names, a, b)
		}
	}
}
