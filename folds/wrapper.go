package folds

import "slices"

// side is where a crease lies in a pile.
type side int

const (
	left side = iota
	right
	front
)

// crease is where two leaves hang together.
type crease struct {
	side       side
	one, other int
}

// wrapper is a strip or a map: how many leaves it has, and its creases.
type wrapper struct {
	leaves  int
	creases []crease
}

// strip returns the strip of n leaves; its creases are in their order.
func strip(n int) wrapper { return wrapper{n, row(0, n)} }

// twoRows returns the map with n columns.
func twoRows(n int) wrapper {
	creases := slices.Concat(row(0, n), row(n, n))
	for c := range n {
		creases = append(creases, crease{front, c, n + c})
	}
	return wrapper{2 * n, creases}
}

// row returns the creases between n leaves in a row, of which from is the first one.
func row(from, n int) []crease {
	var l []crease
	for i := range n - 1 {
		l = append(l, crease{sideOf(i), from + i, from + i + 1})
	}
	return l
}

// sideOf returns the side of crease i of a row.
func sideOf(i int) side {
	if i%2 == 0 {
		return left
	}
	return right
}

// crossing returns the first two creases that cross in a pile of the wrapper, and whether there are such.
func (w wrapper) crossing(pile []int) ([2]int, bool) {
	for i, c := range w.creases {
		for j := i + 1; j < len(w.creases); j++ {
			if c.crosses(w.creases[j], pile) {
				return [2]int{i, j}, true
			}
		}
	}
	return [2]int{}, false
}

func (w wrapper) possible(pile []int) bool {
	_, cross := w.crossing(pile)
	return !cross
}

func (c crease) crosses(d crease, pile []int) bool {
	return c.side == d.side && c.isAround(d.one, pile) != c.isAround(d.other, pile)
}

// isAround reports whether a leaf lies between those of the crease.
func (c crease) isAround(leaf int, pile []int) bool {
	a, b, x := slices.Index(pile, c.one), slices.Index(pile, c.other), slices.Index(pile, leaf)
	return min(a, b) < x && x < max(a, b)
}
