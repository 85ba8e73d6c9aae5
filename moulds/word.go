package moulds

import (
	"slices"
	"strings"

	"comfit/api"
)

// letters are those of words.
const letters = "ruld"

// steps are those of letters.
var steps = [len(letters)]point{{1, 0}, {0, 1}, {-1, 0}, {0, -1}}

// point is where a step begins or ends, a cell, by its corner that is lowest and furthest to the left, or a vector.
type point = [2]int

func sum(p, q point) point { return point{p[0] + q[0], p[1] + q[1]} }

func compare(p, q point) int { return slices.Compare(p[:], q[:]) }

// word is a string of steps.
type word string

func (w word) valid() bool {
	return len(w) <= api.MaxEdge && strings.Trim(string(w), letters) == ""
}

// path returns the points of a word, from 0, 0 to its end.
func (w word) path() []point {
	at := point{}
	path := []point{at}
	for i := range len(w) {
		at = sum(at, steps[strings.IndexByte(letters, w[i])])
		path = append(path, at)
	}
	return path
}

// end returns the sum of the steps.
func (w word) end() point {
	path := w.path()
	return path[len(path)-1]
}

func (w word) isOutline() bool {
	// A way around to the right has an area below 0.
	return w.valid() && len(w) >= minEdge && w.end() == point{} && !w.meetsItself() && w.area() > 0
}

// meetsItself reports whether a word is at a point twice before its end.
func (w word) meetsItself() bool {
	came := map[point]bool{}
	for _, p := range w.path()[:len(w)] {
		if came[p] {
			return true
		}
		came[p] = true
	}
	return false
}

// area returns how many cells are to the left of a way around, without a list of them.
func (w word) area() int {
	area := 0
	path := w.path()
	for i, p := range path[1:] {
		area += p[0] * (p[1] - path[i][1])
	}
	return area
}

// cells returns the cells of an outline, in order.
func (w word) cells() []point {
	// In each column the cells lie between the first and the second of its sides, the third and the fourth, and so on.
	sides := w.level()
	slices.SortFunc(sides, compare)
	cells := []point{}
	for i := 0; i < len(sides); i += 2 {
		x := sides[i][0]
		for y := sides[i][1]; y < sides[i+1][1]; y++ {
			cells = append(cells, point{x, y})
		}
	}
	return cells
}

// level returns the left ends of the steps to the right and to the left.
func (w word) level() []point {
	sides := []point{}
	path := w.path()
	for i, p := range path[1:] {
		if p[1] == path[i][1] {
			sides = append(sides, point{min(p[0], path[i][0]), p[1]})
		}
	}
	return sides
}

// turn returns a word with so many first letters put at the end.
func (w word) turn(put int) word { return w[put:] + w[:put] }

func (w word) first() word {
	first := w
	for put := range len(w) {
		first = min(first, w.turn(put))
	}
	return first
}

// back returns a word that goes back the same way.
func (w word) back() word {
	back := []byte(w.replaced("ruld", "ldru"))
	slices.Reverse(back)
	return word(back)
}

// mirrored returns an outline mirrored. That is gone around to the right, and so it is read backward.
func (w word) mirrored() word { return w.replaced("ruld", "lurd").back() }

func (w word) quarter() word { return w.replaced("ruld", "uldr") }

// replaced returns a word with each letter of from replaced by the one of to at its place.
func (w word) replaced(from, to string) word {
	replaced := []byte(w)
	for i, letter := range replaced {
		replaced[i] = to[strings.IndexByte(from, letter)]
	}
	return word(replaced)
}
