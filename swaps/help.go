package swaps

import (
	"slices"

	"comfit/api"
)

// help is a net: for each collector the set of those whose card would help.
type help []int

func (h help) valid() bool {
	if len(h) < 1 || len(h) > api.MaxNodes {
		return false
	}
	for i, set := range h {
		if set < 0 || set > everybody(len(h)) || has(set, i) {
			return false
		}
	}
	return true
}

// circles returns all circles of 2 or 3 collectors, in order.
func (h help) circles() [][]int {
	var l [][]int
	for a := range len(h) {
		for b := a + 1; b < len(h); b++ {
			if has(h[a], b) {
				l = append(l, h.closed(a, b)...)
			}
		}
	}
	return l
}

// closed returns the circles that begin with a and b, in order, a being the least collector of each.
func (h help) closed(a, b int) [][]int {
	var l [][]int
	if has(h[b], a) {
		l = append(l, []int{a, b})
	}
	for c := a + 1; c < len(h); c++ {
		if has(h[b], c) && has(h[c], a) {
			l = append(l, []int{a, b, c})
		}
	}
	return l
}

// areSwaps reports whether l are circles, in order, no collector in two of them.
func (h help) areSwaps(l [][]int) bool {
	left := h.circles() // those that may still come
	for _, circle := range l {
		at := slices.IndexFunc(left, func(c []int) bool { return slices.Equal(c, circle) })
		if at < 0 {
			return false
		}
		left = apart(left[at+1:], circle)
	}
	return true
}

// most returns those of some circles, no collector in two of them, that help the most.
func most(circles [][]int) [][]int {
	if len(circles) == 0 {
		return nil
	}
	first, rest := circles[0], circles[1:]
	without := most(rest)
	with := append([][]int{first}, most(apart(rest, first))...)
	if number(with) > number(without) {
		return with
	}
	return without
}

// apart returns those of some circles that have no collector of one circle.
func apart(circles [][]int, one []int) [][]int {
	var l [][]int
	for _, circle := range circles {
		if setOf(circle)&setOf(one) == 0 {
			l = append(l, circle)
		}
	}
	return l
}

// number returns how many collectors are in some circles, no collector in two of them.
func number(circles [][]int) int { return len(slices.Concat(circles...)) }
