package folds

import (
	"iter"
	"slices"

	"comfit/api"
)

// isPile reports whether l has all of n leaves, each once.
func isPile(l []int, n int) bool {
	if len(l) != n {
		return false
	}
	for x := range n {
		if !slices.Contains(l, x) {
			return false
		}
	}
	return true
}

// isStrip reports whether there is a strip of n leaves.
func isStrip(n int) bool { return n >= 1 && n <= api.MaxLeaves }

// isPileOfStrip reports whether l is a pile of the strip with as many leaves.
func isPileOfStrip(l []int) bool { return isStrip(len(l)) && isPile(l, len(l)) }

// orders ranges over all orders of n leaves, rising. Each of them has memory of its own.
func orders(n int) iter.Seq[[]int] {
	return func(yield func([]int) bool) { goOn(nil, n, yield) }
}

// goOn yields all orders of n leaves that begin so, and reports whether more are wanted.
func goOn(beginning []int, n int, yield func([]int) bool) bool {
	if len(beginning) == n {
		return yield(beginning)
	}
	for x := range n {
		if slices.Contains(beginning, x) {
			continue
		}
		if !goOn(append(slices.Clone(beginning), x), n, yield) {
			return false
		}
	}
	return true
}

// piles ranges over the possible piles of the wrapper, rising. Each of them has memory of its own.
func (w wrapper) piles() iter.Seq[[]int] {
	return func(yield func([]int) bool) {
		for pile := range orders(w.leaves) {
			if w.possible(pile) && !yield(pile) {
				return
			}
		}
	}
}

// folded ranges over the possible piles of a strip with just these mountains, rising.
func folded(n, mountains int) iter.Seq[[]int] {
	return func(yield func([]int) bool) {
		for pile := range strip(n).piles() {
			if mountainsOf(pile) == mountains && !yield(pile) {
				return
			}
		}
	}
}

func number(piles iter.Seq[[]int]) int {
	n := 0
	for range piles {
		n++
	}
	return n
}

// mountainsOf returns the set of the creases that are mountains in a pile of a strip.
func mountainsOf(pile []int) int {
	set := 0
	for i := range len(pile) - 1 {
		below := slices.Index(pile, i+1) > slices.Index(pile, i)
		// Each next leaf lies with its other face up, so a mountain goes down on the left and up on the right.
		if below == (sideOf(i) == left) {
			set |= 1 << i
		}
	}
	return set
}

// isSet reports whether mountains is a set of creases of a strip of n leaves.
func isSet(n, mountains int) bool {
	return isStrip(n) && mountains >= 0 && mountains < 1<<(n-1)
}
