// Package cones is layer 1: it puts assortments together. It finds the basic moves of a matrix, the families of
// assortments with one product, the best of a family, and ways from one assortment to another.
package cones

import "comfit/api"

// Bounds of the numbers in vectors.
const (
	maxNumber = 1000 // of Times, Fits and Step
	maxMove   = 100  // of Split
	maxStock  = 6    // of an assortment
	maxPrice  = 9
)

// Times returns the product of a matrix and a vector.
func Times(a [][]int, x []int) ([]int, api.Errno) {
	m, v, ok := readBoth(a, x, -maxNumber, maxNumber)
	if !ok {
		return nil, api.ErrArg
	}
	var l []int
	for _, row := range m.rows[:len(a)] {
		l = append(l, row.dot(v))
	}
	return l, api.OK
}

// Fits reports whether a vector fits into another one.
func Fits(x, y []int) (bool, api.Errno) {
	if len(x) == 0 {
		return false, api.ErrArg
	}
	v, ok := read(x, len(x), -maxNumber, maxNumber)
	if !ok {
		return false, api.ErrArg
	}
	w, ok := read(y, len(x), -maxNumber, maxNumber)
	if !ok {
		return false, api.ErrArg
	}
	return v.fits(w), api.OK
}

// Basic returns all basic moves, rising.
func Basic(a [][]int) ([][]int, api.Errno) {
	m, ok := readMatrix(a)
	if !ok {
		return nil, api.ErrArg
	}
	return m.lists(m.basic()), api.OK
}

// Pure returns all basic moves without numbers below 0, rising.
func Pure(a [][]int) ([][]int, api.Errno) {
	m, ok := readMatrix(a)
	if !ok {
		return nil, api.ErrArg
	}
	return m.lists(newTask(m).pure()), api.OK
}

// Split returns basic moves that fit together into x, or api.ErrNone if x is no move.
func Split(a [][]int, x []int) ([][]int, api.Errno) {
	m, v, ok := readBoth(a, x, -maxMove, maxMove)
	if !ok {
		return nil, api.ErrArg
	}
	if !m.isMove(v) {
		return nil, api.ErrNone
	}
	return m.lists(newTask(m).split(v)), api.OK
}

// CheckSplit reports whether l are basic moves that fit together into x.
func CheckSplit(a [][]int, x []int, l [][]int) (bool, api.Errno) {
	m, v, ok := readBoth(a, x, -maxMove, maxMove)
	if !ok {
		return false, api.ErrArg
	}
	return newTask(m).isSplit(v, l), api.OK
}

// Family returns all vectors of x's family, rising, or api.ErrState if it has no end.
func Family(a [][]int, x []int) ([][]int, api.Errno) {
	m, l, e := family(a, x)
	return m.lists(l), e
}

// Count returns how many vectors x's family has, or api.ErrState if it has no end.
func Count(a [][]int, x []int) (int, api.Errno) {
	_, l, e := family(a, x)
	return len(l), e
}

// Best returns the least sum of prices in x's family, or api.ErrState if it has no end.
func Best(a [][]int, x, prices []int) (int, api.Errno) {
	cost, ok := read(prices, len(x), -maxPrice, maxPrice)
	if !ok {
		return 0, api.ErrArg
	}
	_, l, e := family(a, x)
	if e != api.OK {
		return 0, e
	}
	least := cost.dot(l[0])
	for _, v := range l {
		least = min(least, cost.dot(v))
	}
	return least, api.OK
}

// Step returns the best vector that is a basic move from x, or api.ErrNone if none is better than x.
func Step(a [][]int, x, prices []int) ([]int, api.Errno) {
	m, v, ok := readBoth(a, x, 0, maxNumber)
	if !ok {
		return nil, api.ErrArg
	}
	cost, ok := m.read(prices, -maxPrice, maxPrice)
	if !ok {
		return nil, api.ErrArg
	}
	t := newTask(m)
	if t.endless() {
		return nil, api.ErrState
	}
	w, ok := t.better(v, cost)
	if !ok {
		return nil, api.ErrNone
	}
	return t.list(w), api.OK
}

// Way returns a way from x to y with the fewest vectors, or api.ErrNone if they are not of one family.
func Way(a [][]int, x, y []int) ([][]int, api.Errno) {
	m, v, w, ok := readEnds(a, x, y)
	if !ok {
		return nil, api.ErrArg
	}
	if m.times(v) != m.times(w) {
		return nil, api.ErrNone
	}
	return m.lists(newTask(m).way(v, w)), api.OK
}

// CheckWay reports whether l is a way from x to y.
func CheckWay(a [][]int, x, y []int, l [][]int) (bool, api.Errno) {
	m, v, w, ok := readEnds(a, x, y)
	if !ok {
		return false, api.ErrArg
	}
	return newTask(m).isWay(v, w, l), api.OK
}

// readBoth returns a matrix and a vector for it with numbers from low to high.
func readBoth(a [][]int, x []int, low, high int) (matrix, vector, bool) {
	m, ok := readMatrix(a)
	if !ok {
		return m, vector{}, false
	}
	v, ok := m.read(x, low, high)
	return m, v, ok
}

// readEnds returns a matrix and two assortments for it.
func readEnds(a [][]int, x, y []int) (matrix, vector, vector, bool) {
	m, v, ok := readBoth(a, x, 0, maxStock)
	if !ok {
		return m, v, vector{}, false
	}
	w, ok := m.read(y, 0, maxStock)
	return m, v, w, ok
}

// family returns the matrix and the family of the assortment x.
func family(a [][]int, x []int) (matrix, []vector, api.Errno) {
	m, v, ok := readBoth(a, x, 0, maxStock)
	if !ok {
		return m, nil, api.ErrArg
	}
	t := newTask(m)
	if t.endless() {
		return m, nil, api.ErrState
	}
	return m, t.family(v), api.OK
}
