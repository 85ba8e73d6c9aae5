package cones

import "slices"

// basic returns all basic moves, rising.
//
// It goes to them from 0 by steps of one in one column, never back in a column. What is left of a move takes the
// product that was reached back to 0, so one of the steps that are left has a product that points away from it. To
// take such steps alone is therefore enough to find every basic move; and it comes to an end, as products then stay
// small (Contejean and Devie, An efficient incremental algorithm for solving systems of linear Diophantine equations).
func (m matrix) basic() []vector {
	var found []vector
	for edge := m.firstSteps(); len(edge) > 0; {
		var open []vector
		for _, v := range edge {
			if m.isMove(v) {
				found = append(found, v)
			} else {
				open = append(open, v)
			}
		}
		edge = m.beyond(open, found)
	}
	slices.SortFunc(found, vector.compare)
	return found
}

// firstSteps returns the vectors one step from 0.
func (m matrix) firstSteps() []vector {
	var l []vector
	for j := range m.cols {
		l = append(l, vector{}.step(j, 1), vector{}.step(j, -1))
	}
	return l
}

// beyond returns the vectors one step from those of open. It leaves out those into which a move that was found fits: they lead to no other basic move.
func (m matrix) beyond(open, found []vector) []vector {
	var edge []vector
	seen := map[vector]bool{}
	for _, v := range open {
	next:
		for _, w := range m.steps(v) {
			if seen[w] {
				continue
			}
			seen[w] = true
			for _, move := range found {
				if move.fits(w) {
					continue next
				}
			}
			edge = append(edge, w)
		}
	}
	return edge
}

// steps returns the vectors one step from v, by steps that point away from v's product and not back.
func (m matrix) steps(v vector) []vector {
	var l []vector
	p := m.times(v)
	for j := range m.cols {
		turn := p.dot(m.column(j))
		if turn < 0 && v[j] >= 0 {
			l = append(l, v.step(j, 1))
		}
		if turn > 0 && v[j] <= 0 {
			l = append(l, v.step(j, -1))
		}
	}
	return l
}
