package moulds

import "slices"

// areCells reports whether cells are some different cells, in order.
func areCells(cells []point) bool {
	if len(cells) == 0 || len(cells) > maxCells {
		return false
	}
	for i, cell := range cells {
		if !isPlace(cell) || i > 0 && compare(cells[i-1], cell) >= 0 {
			return false
		}
	}
	return true
}

func isPlace(p point) bool {
	return max(p[0], p[1]) <= maxPlace && min(p[0], p[1]) >= -maxPlace
}

// around returns the way around cells with them to its left, and whether one way goes by all of their sides, and is at no point twice.
func around(cells []point) (word, bool) {
	sides, ok := sidesOf(cells)
	if !ok {
		return "", false
	}
	way := []byte{}
	begin := cells[0] // nothing is below the first cell: a side begins there
	for at := begin; len(way) == 0 || at != begin; {
		side := sides[at]
		way = append(way, letters[side])
		at = sum(at, steps[side])
	}
	// What the way did not go by are the sides of holes, or of cells that do not hang together with the first one.
	return word(way), len(way) == len(sides)
}

// sidesOf returns the steps with a cell to their left and none to their right, by the points where they begin, and whether these are different.
func sidesOf(cells []point) (map[point]int, bool) {
	sides := map[point]int{}
	for _, cell := range cells {
		begin := cell
		for i, step := range steps {
			right := sum(cell, steps[(i+len(steps)-1)%len(steps)])
			if !slices.Contains(cells, right) {
				if _, ok := sides[begin]; ok {
					return nil, false
				}
				sides[begin] = i
			}
			begin = sum(begin, step)
		}
	}
	return sides, true
}

// fills reports whether cells and two vectors fill a tray.
func fills(cells []point, v, w point) bool {
	area := cross(v, w)
	if area != len(cells) && area != -len(cells) {
		return false
	}
	// There are area classes of cells that the vectors move onto each other: it takes just one cell of each.
	for i, p := range cells {
		for _, q := range cells[:i] {
			moved := point{p[0] - q[0], p[1] - q[1]}
			if cross(moved, w)%area == 0 && cross(v, moved)%area == 0 {
				return false
			}
		}
	}
	return true
}

// cross returns the determinant of two vectors.
func cross(v, w point) int { return v[0]*w[1] - v[1]*w[0] }
