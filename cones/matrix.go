package cones

import (
	"slices"

	"comfit/api"
)

// maxEntry bounds the numbers of a matrix, on both sides of 0.
const maxEntry = 2

// matrix is a matrix with rows of 0 in place of those that it does not have: they change no product.
type matrix struct {
	rows [api.MaxRows]vector
	cols int
}

// product has a number for each row.
type product [api.MaxRows]int

func (p product) dot(q product) int {
	sum := 0
	for i := range p {
		sum += p[i] * q[i]
	}
	return sum
}

func readMatrix(a [][]int) (matrix, bool) {
	var m matrix
	if len(a) < 1 || len(a) > api.MaxRows || len(a[0]) < 1 {
		return m, false
	}
	m.cols = len(a[0])
	for i, row := range a {
		v, ok := m.read(row, -maxEntry, maxEntry)
		if !ok {
			return m, false
		}
		m.rows[i] = v
	}
	return m, true
}

// read returns x, if it is a vector for m with numbers from low to high.
func (m matrix) read(x []int, low, high int) (vector, bool) {
	return read(x, m.cols, low, high)
}

// list returns the numbers of v in the columns of m, in new memory.
func (m matrix) list(v vector) []int { return slices.Clone(v[:m.cols]) }

// lists returns a list for each vector.
func (m matrix) lists(l []vector) [][]int {
	out := make([][]int, len(l))
	for i, v := range l {
		out[i] = m.list(v)
	}
	return out
}

func (m matrix) times(v vector) product {
	var p product
	for i, row := range m.rows {
		p[i] = row.dot(v)
	}
	return p
}

func (m matrix) isMove(v vector) bool { return m.times(v) == product{} }

func (m matrix) column(j int) product {
	var p product
	for i, row := range m.rows {
		p[i] = row[j]
	}
	return p
}
