package cones

import (
	"math"
	"slices"
)

// task is a matrix with its basic moves.
type task struct {
	matrix
	moves []vector
}

func newTask(m matrix) task { return task{m, m.basic()} }

func (t task) isBasic(v vector) bool { return slices.Contains(t.moves, v) }

// pure returns the pure moves, rising.
func (t task) pure() []vector {
	var l []vector
	for _, move := range t.moves {
		if move.whole() {
			l = append(l, move)
		}
	}
	return l
}

// endless reports whether families have no end.
func (t task) endless() bool { return slices.ContainsFunc(t.moves, vector.whole) }

// split returns basic moves that fit together into the move x.
func (t task) split(x vector) []vector {
	var l []vector
	for _, move := range t.moves {
		// A move that does not fit into what is left will not fit into less: one turn for each move is enough.
		for move.fits(x) {
			l = append(l, move)
			x = x.minus(move)
		}
	}
	return l
}

// isSplit reports whether l are basic moves that fit together into x.
func (t task) isSplit(x vector, l [][]int) bool {
	for _, y := range l {
		move, ok := t.read(y, -maxMove, maxMove)
		// What is left keeps the signs of x, so all moves fit into x just if each fits into what the others left of it.
		if !ok || !t.isBasic(move) || !move.fits(x) {
			return false
		}
		x = x.minus(move)
	}
	return x == vector{}
}

// near returns the vectors without numbers below 0 that are a basic move from v, rising.
func (t task) near(v vector) []vector {
	var l []vector
	for _, move := range t.moves {
		if w := v.plus(move); w.whole() {
			l = append(l, w)
		}
	}
	return l
}

// family returns the family of x, which must have an end, rising.
func (t task) family(x vector) []vector {
	// Basic moves that fit together into y less x lead from x to y and never below 0: so they reach the whole family.
	l := []vector{x}
	seen := map[vector]bool{x: true}
	for at := 0; at < len(l); at++ {
		for _, w := range t.near(l[at]) {
			if !seen[w] {
				seen[w] = true
				l = append(l, w)
			}
		}
	}
	slices.SortFunc(l, vector.compare)
	return l
}

// better returns the first of the cheapest vectors near v, if they cost less than v.
func (t task) better(v, prices vector) (vector, bool) {
	best := v
	for _, w := range t.near(v) {
		if prices.dot(w) < prices.dot(best) {
			best = w
		}
	}
	return best, best != v
}

// isWay reports whether l is a way from x to y.
func (t task) isWay(x, y vector, l [][]int) bool {
	if len(l) == 0 {
		return false
	}
	at := x
	for i, u := range l {
		v, ok := t.read(u, 0, math.MaxInt)
		if !ok || i == 0 && v != x || i > 0 && !t.isBasic(v.minus(at)) {
			return false
		}
		at = v
	}
	return at == y
}
