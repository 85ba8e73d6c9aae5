package swaps_test

import (
	"reflect"
	"slices"
	"testing"

	"comfit/swaps"
)

// wishesResults are those of all functions for wishes and an order.
func wishesResults(w [][]int, order []int) []any {
	var l []any
	add := func(values ...any) { l = append(l, values...) }
	trade, e := swaps.Trade(w)
	add(trade, e)
	rounds, e := swaps.Rounds(w)
	add(rounds, e)
	set, e := swaps.Block(w, order)
	add(set, e)
	set, e = swaps.Strong(w, order)
	add(set, e)
	waste, e := swaps.Waste(w, order)
	add(waste, e)
	core, e := swaps.Core(w)
	add(core, e)
	turns, e := swaps.Turns(w, order)
	add(turns, e)
	before, e := swaps.Order(w, order)
	add(before, e)
	before, e = swaps.Order(w, trade)
	add(before, e)
	honest, lied, e := swaps.Lie(w, 0, order)
	return append(l, honest, lied, e)
}

// netResults are those of all functions for a net.
func netResults(net []int) []any {
	circles, e := swaps.Circles(net)
	l, f := swaps.Swaps(net)
	n, ok, g := swaps.CheckSwaps(net, l)
	m, also, h := swaps.CheckSwaps(net, circles)
	return []any{circles, e, l, f, n, ok, g, m, also, h}
}

// fill puts 99 wherever a result has memory for a number, also behind its end.
func fill(results []any) {
	for _, x := range results {
		switch l := x.(type) {
		case []int:
			fillOne(l)
		case [][]int:
			for _, inner := range l {
				fillOne(inner)
			}
			l = l[:cap(l)]
			for i := range l {
				l[i] = []int{99}
			}
		}
	}
}

func fillOne(l []int) {
	l = l[:cap(l)]
	for i := range l {
		l[i] = 99
	}
}

// wider returns wishes with more numbers behind the end of each slice.
func wider(w [][]int) [][]int {
	l := append(make([][]int, 0, len(w)+1), w...)
	for i := range l {
		l[i] = append(slices.Clone(l[i]), 77)[:len(l[i])]
	}
	return append(l, []int{78})[:len(w)]
}

// untouched reports whether wishes made by wider still are what they were made from.
func untouched(wide, w [][]int) bool {
	for i := range w {
		if !slices.Equal(wide[i][:len(w[i])+1], append(slices.Clone(w[i]), 77)) {
			return false
		}
	}
	return len(wide) == len(w) && slices.Equal(wide[:len(w)+1][len(w)], []int{78})
}

// Rule 2: the same calls give the same results, whatever was called in between and whatever became of older results; rule 4: no argument is changed, also behind its end.
func TestSameCallsGiveSameResults(t *testing.T) {
	var want [][]any
	all := slices.Concat(chosenWishes(), drawnWishes(23, 7, 1, 6), [][][]int{nil, {{0, 0}, {5, 1}}})
	for _, w := range all {
		want = append(want, wishesResults(w, orders[min(len(w), 6)][len(w)/2]))
	}
	for range 2 {
		for i, w := range slices.Backward(all) {
			order := append(slices.Clone(orders[min(len(w), 6)][len(w)/2]), 79)
			wide := wider(w)
			l := wishesResults(wide, order[:len(order)-1])
			if !reflect.DeepEqual(l, want[i]) {
				t.Error(w, l, want[i])
			}
			fill(l)
			if !untouched(wide, w) || !slices.Equal(order, append(slices.Clone(orders[min(len(w), 6)][len(w)/2]), 79)) {
				t.Error("changed:", w, wide, order)
			}
		}
	}
}

// Rules 2 and 4 for nets.
func TestSameNetsGiveSameResults(t *testing.T) {
	var want [][]any
	all := slices.Concat(allNets(3), [][]int{fullNet(6), fullNet(5), nil, {1, 1}})
	for _, net := range all {
		want = append(want, netResults(net))
	}
	for range 2 {
		for i, net := range slices.Backward(all) {
			more := append(slices.Clone(net), 77)
			l := netResults(more[:len(net)])
			if !reflect.DeepEqual(l, want[i]) {
				t.Error(net, l, want[i])
			}
			fill(l)
			if !slices.Equal(more, append(slices.Clone(net), 77)) {
				t.Error("changed:", net, more)
			}
		}
	}
}

// Rule 4: what CheckSwaps judges is not changed.
func TestJudgedSwapsAreKept(t *testing.T) {
	for _, l := range [][][]int{{{0, 1}}, {{0, 1, 2}}, {{1, 2}, {0, 1}}, {{2, 1}}, {{0, 99}, {-5}}, {nil, {0, 1}}} {
		wide := wider(l)
		swaps.CheckSwaps(small, wide)
		if !untouched(wide, l) {
			t.Error("changed:", l, wide)
		}
	}
}

// Rule 4: no two slices of one result share memory.
func TestListsShareNoMemory(t *testing.T) {
	core, _ := swaps.Core([][]int{{1, 2, 0}, {0, 2, 1}, {1, 0, 2}})
	circles, _ := swaps.Circles(fullNet(6))
	l, _ := swaps.Swaps(fullNet(6))
	for _, list := range [][][]int{core, circles, l} {
		var old [][]int
		for _, inner := range list {
			old = append(old, slices.Clone(inner))
		}
		for i := range list {
			if !slices.Equal(list[i], old[i]) {
				t.Error("shared:", old, list)
			}
			fillOne(list[i])
		}
	}
}
