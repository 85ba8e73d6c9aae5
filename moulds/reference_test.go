package moulds_test

import (
	"slices"
	"strings"
)

// point is a place, a cell or a vector.
type point = [2]int

func moved(p, by point) point { return point{p[0] + by[0], p[1] + by[1]} }

func comparePoints(p, q point) int { return slices.Compare(p[:], q[:]) }

// movedAll returns cells moved.
func movedAll(cells []point, by point) []point {
	var l []point
	for _, cell := range cells {
		l = append(l, moved(cell, by))
	}
	return l
}

var moves = map[byte]point{'r': {1, 0}, 'u': {0, 1}, 'l': {-1, 0}, 'd': {0, -1}}

// refPath returns the points of a word, from 0, 0 to its end.
func refPath(s string) []point {
	l := []point{{0, 0}}
	for i := range len(s) {
		l = append(l, moved(l[i], moves[s[i]]))
	}
	return l
}

func refSum(s string) point {
	sum := point{}
	for i := range len(s) {
		sum = moved(sum, moves[s[i]])
	}
	return sum
}

// refCloses reports whether a string is one of 4 to 24 steps that comes back, and is at no point twice but at the end.
func refCloses(s string) bool {
	if len(s) < 4 || len(s) > 24 || strings.ContainsFunc(s, func(r rune) bool { return !strings.ContainsRune("ruld", r) }) {
		return false
	}
	path := refPath(s)
	for i, p := range path[:len(s)] {
		if slices.Contains(path[:i], p) {
			return false
		}
	}
	return path[len(s)] == point{}
}

// refIs asks also whether the cell to the left of the first step is inside.
func refIs(s string) bool {
	if !refCloses(s) {
		return false
	}
	left := map[byte]point{'r': {0, 0}, 'u': {-1, 0}, 'l': {-1, -1}, 'd': {0, -1}}[s[0]]
	return slices.Contains(refCells(s), left)
}

// refCells returns the cells that can't be reached from outside without crossing a step of a way that closes.
func refCells(s string) []point {
	path := refPath(s)
	crossed := map[[2]point]bool{}
	for i := range len(s) {
		crossed[[2]point{path[i], path[i+1]}] = true
		crossed[[2]point{path[i+1], path[i]}] = true
	}
	low, high := point{-1, -1}, point{}
	for _, p := range path {
		low = point{min(low[0], p[0]-1), min(low[1], p[1]-1)}
		high = point{max(high[0], p[0]), max(high[1], p[1])}
	}
	outside := map[point]bool{low: true}
	for work := []point{low}; len(work) > 0; work = work[1:] {
		x, y := work[0][0], work[0][1]
		for next, side := range map[point][2]point{
			{x + 1, y}: {{x + 1, y}, {x + 1, y + 1}}, {x - 1, y}: {{x, y}, {x, y + 1}},
			{x, y + 1}: {{x, y + 1}, {x + 1, y + 1}}, {x, y - 1}: {{x, y}, {x + 1, y}},
		} {
			in := next[0] >= low[0] && next[1] >= low[1] && next[0] <= high[0] && next[1] <= high[1]
			if in && !outside[next] && !crossed[side] {
				outside[next] = true
				work = append(work, next)
			}
		}
	}
	return others(outside, low, high)
}

// others returns the cells from low to high that are not in a set, in order.
func others(set map[point]bool, low, high point) []point {
	var l []point
	for x := low[0]; x <= high[0]; x++ {
		for y := low[1]; y <= high[1]; y++ {
			if !set[point{x, y}] {
				l = append(l, point{x, y})
			}
		}
	}
	return l
}

func refTurns(s string) []string {
	var l []string
	for put := range len(s) {
		l = append(l, s[put:]+s[:put])
	}
	return l
}

func refFirst(s string) string { return slices.Min(refTurns(s)) }

func refBack(s string) string {
	back := ""
	for i := range len(s) {
		back = string(map[byte]byte{'r': 'l', 'l': 'r', 'u': 'd', 'd': 'u'}[s[i]]) + back
	}
	return back
}

// refFactorings returns all factorings, in order.
func refFactorings(s string) [][4]int {
	var l [][4]int
	for put, turn := range refTurns(s) {
		for a := 1; a <= len(s); a++ {
			for b := 1; b <= len(s); b++ {
				c := len(s)/2 - a - b
				if c < 0 {
					continue
				}
				wordA, wordB, wordC := turn[:a], turn[a:a+b], turn[a+b:a+b+c]
				if turn == wordA+wordB+wordC+refBack(wordA)+refBack(wordB)+refBack(wordC) {
					l = append(l, [4]int{put, a, b, c})
				}
			}
		}
	}
	return l
}

// joined reports whether cells hang together by their sides.
func joined(cells []point) bool {
	reached := map[point]bool{cells[0]: true}
	for work := []point{cells[0]}; len(work) > 0; work = work[1:] {
		for _, move := range moves {
			if next := moved(work[0], move); slices.Contains(cells, next) && !reached[next] {
				reached[next] = true
				work = append(work, next)
			}
		}
	}
	return len(reached) == len(cells)
}

// around returns the cells that are not among cells, in a box that is wider by one to each side.
func around(cells []point) []point {
	set := map[point]bool{}
	low, high := cells[0], cells[0]
	for _, cell := range cells {
		set[cell] = true
		low = point{min(low[0], cell[0]), min(low[1], cell[1])}
		high = point{max(high[0], cell[0]), max(high[1], cell[1])}
	}
	return others(set, moved(low, point{-1, -1}), moved(high, point{1, 1}))
}

// refSides returns how many sides cells have that no two of them share.
func refSides(cells []point) int {
	n := 0
	for _, cell := range cells {
		for _, move := range moves {
			if !slices.Contains(cells, moved(cell, move)) {
				n++
			}
		}
	}
	return n
}

// refCovers covers the plane by definition, in the square from 0, 0 to size, size, with all i and j from -most to most, and reports whether each cell is covered just once.
func refCovers(cells []point, v, w point, size, most int) bool {
	covered := make([]int, size*size)
	for i := -most; i <= most; i++ {
		for j := -most; j <= most; j++ {
			for _, cell := range cells {
				x, y := cell[0]+i*v[0]+j*w[0], cell[1]+i*v[1]+j*w[1]
				if x >= 0 && y >= 0 && x < size && y < size {
					covered[x*size+y]++
				}
			}
		}
	}
	return !slices.ContainsFunc(covered, func(n int) bool { return n != 1 })
}

func mod(n, by int) int { return (n%by + by) % by }

func refDeterminant(v, w point) int { return v[0]*w[1] - v[1]*w[0] }

// refFills covers the plane as refCovers does, in a square as large as the determinant: what lies as many steps to the right
// or up looks the same. With a determinant of 0, or above the number of cells, these are too few for the plane.
func refFills(cells []point, v, w point) bool {
	size := max(refDeterminant(v, w), -refDeterminant(v, w))
	if size == 0 || size > len(cells) {
		return false
	}
	places := map[point]bool{}
	for i := range size {
		for j := range size {
			places[point{mod(i*v[0]+j*w[0], size), mod(i*v[1]+j*w[1], size)}] = true
		}
	}
	covered := map[point]int{}
	for place := range places {
		for _, cell := range cells {
			covered[point{mod(place[0]+cell[0], size), mod(place[1]+cell[1], size)}]++
		}
	}
	for _, n := range covered {
		if n != 1 {
			return false
		}
	}
	return len(covered) == size*size
}

// refTile tries one pair of vectors for all pairs that move to the same places, a short one, if there is one. With as large a
// determinant as the area, the places of each pair are also those of some vectors [a, 0] and [b, d].
func refTile(s string) bool {
	cells := refCells(s)
	for a := 1; a <= len(cells); a++ {
		for b := 0; b < a && len(cells)%a == 0; b++ {
			v, w := shortened(point{a, 0}, point{b, len(cells) / a})
			if isShort(v) && isShort(w) && refFills(cells, v, w) {
				return true
			}
		}
	}
	return false
}

func isShort(v point) bool { return max(v[0], -v[0], v[1], -v[1]) <= 24 }

// shortened adds one vector to the other one, or takes it away, as long as one gets shorter.
func shortened(v, w point) (point, point) {
	length := func(v point) int { return v[0]*v[0] + v[1]*v[1] }
	for {
		old := [2]point{v, w}
		for _, sign := range []int{1, -1} {
			if l := moved(v, point{sign * w[0], sign * w[1]}); length(l) < length(v) {
				v = l
			}
			if l := moved(w, point{sign * v[0], sign * v[1]}); length(l) < length(w) {
				w = l
			}
		}
		if old == [2]point{v, w} {
			return v, w
		}
	}
}
