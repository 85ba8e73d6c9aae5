package swaps

import (
	"iter"
	"slices"
)

// deals ranges over the deals in which each collector gets a card of a set, in order. Each of them has memory of its own.
func deals(sets []int) iter.Seq[[]int] {
	return func(yield func([]int) bool) { goOn(nil, sets, yield) }
}

// goOn yields the deals that begin so, and reports whether more are wanted.
func goOn(beginning, sets []int, yield func([]int) bool) bool {
	n, next := len(sets), len(beginning)
	if next == n {
		return yield(beginning)
	}
	left := sets[next] &^ setOf(beginning)
	for card := range n {
		if has(left, card) && !goOn(append(slices.Clone(beginning), card), sets, yield) {
			return false
		}
	}
	return true
}

// allDeals ranges over all deals of n cards, in order.
func allDeals(n int) iter.Seq[[]int] { return deals(slices.Repeat([]int{everybody(n)}, n)) }

// changed returns the set of the collectors who get different cards in two deals.
func changed(deal, other []int) int {
	set := 0
	for i := range len(deal) {
		if deal[i] != other[i] {
			set |= 1 << i
		}
	}
	return set
}
