package cones

import "slices"

// search is what basic moves reach from a vector, ring by ring: a ring has the vectors that take one move more than those of the ring before it.
type search struct {
	before map[vector]vector // for each vector that was reached the one before it; the first one is its own
	ring   []vector          // the last ring
}

func newSearch(x vector) search { return search{map[vector]vector{x: x}, []vector{x}} }

func (s search) has(v vector) bool {
	_, ok := s.before[v]
	return ok
}

// grow goes on to the next ring.
func (s *search) grow(t task) {
	var ring []vector
	for _, v := range s.ring {
		for _, w := range t.near(v) {
			if !s.has(w) {
				s.before[w] = v
				ring = append(ring, w)
			}
		}
	}
	s.ring = ring
}

// back returns the vectors from v back to the first one.
func (s search) back(v vector) []vector {
	l := []vector{v}
	for s.before[v] != v {
		v = s.before[v]
		l = append(l, v)
	}
	return l
}

// way returns a way from x to y, which must be of one family, with the fewest vectors. Two searches, one from each end, meet before either one grows large.
func (t task) way(x, y vector) []vector {
	from, to := newSearch(x), newSearch(y)
	for {
		// Rings come one at a time, so a shortest way crosses the last ring of the one search just when the other one gets there.
		if i := slices.IndexFunc(from.ring, to.has); i >= 0 {
			return join(from, to, from.ring[i])
		}
		if len(from.ring) <= len(to.ring) {
			from.grow(t)
		} else {
			to.grow(t)
		}
	}
}

// join returns the way over v, which both searches reach.
func join(from, to search, v vector) []vector {
	l := from.back(v)
	slices.Reverse(l)
	return append(l, to.back(v)[1:]...)
}
