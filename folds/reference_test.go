package folds_test

import "slices"

// What the document says, worked out in the plainest way, to hold against the package.

// layer is a crease of a reference wrapper: its side and its leaves.
type layer struct {
	side       string
	leaf, mate int
}

func refStrip(n int) []layer {
	var l []layer
	for i := 0; i+1 < n; i++ {
		l = append(l, layer{[]string{"left", "right"}[i%2], i, i + 1})
	}
	return l
}

func refMap(n int) []layer {
	var l []layer
	for i := 0; i+1 < n; i++ {
		s := []string{"left", "right"}[i%2]
		l = append(l, layer{s, i, i + 1}, layer{s, n + i, n + i + 1})
	}
	for c := range n {
		l = append(l, layer{"front", c, n + c})
	}
	return l
}

// places returns the place of each leaf.
func places(pile []int) []int {
	l := make([]int, len(pile))
	for at, x := range pile {
		l[x] = at
	}
	return l
}

// refCross reports whether the intervals of two creases of one side overlap, neither within the other.
func refCross(pile []int, c, d layer) bool {
	p := places(pile)
	a, b := min(p[c.leaf], p[c.mate]), max(p[c.leaf], p[c.mate])
	x, y := min(p[d.leaf], p[d.mate]), max(p[d.leaf], p[d.mate])
	return c.side == d.side && (a < x && x < b && b < y || x < a && a < y && y < b)
}

// refPairs returns all pairs of creases that cross, rising.
func refPairs(pile []int, l []layer) [][2]int {
	var pairs [][2]int
	for i := range l {
		for j := i + 1; j < len(l); j++ {
			if refCross(pile, l[i], l[j]) {
				pairs = append(pairs, [2]int{i, j})
			}
		}
	}
	return pairs
}

// refPossible goes through the pile from the top down. The creases of a side are brackets there: of those that are open the last one has to be closed first.
func refPossible(pile []int, l []layer) bool {
	open := map[string][]layer{}
	for at, x := range pile {
		for _, c := range l {
			if c.leaf != x && c.mate != x {
				continue
			}
			o := open[c.side]
			seen := slices.Contains(pile[:at], c.leaf+c.mate-x)
			if !seen {
				open[c.side] = append(o, c)
			} else if o[len(o)-1] != c {
				return false
			} else {
				open[c.side] = o[:len(o)-1]
			}
		}
	}
	return true
}

// refList returns the possible piles of a strip, rising: those of a strip with one leaf less, with the last leaf put in at each place.
func refList(n int) [][]int {
	if n == 1 {
		return [][]int{{0}}
	}
	var l [][]int
	for _, pile := range refList(n - 1) {
		for at := range n {
			p := slices.Insert(slices.Clone(pile), at, n-1)
			if refPossible(p, refStrip(n)) {
				l = append(l, p)
			}
		}
	}
	slices.SortFunc(l, slices.Compare)
	return l
}

// refMountains returns the set of the mountains. It goes along the strip with the leaf's face up or down: a mountain has the backs of its leaves together.
func refMountains(pile []int) int {
	p, set, faceUp := places(pile), 0, true
	for i := 0; i+1 < len(pile); i++ {
		nextIsBelow := p[i+1] > p[i]
		if faceUp == nextIsBelow { // it is folded to where the back of leaf i is
			set += 1 << i
		}
		faceUp = !faceUp
	}
	return set
}

// refFolds returns the possible piles of a strip with these mountains, rising.
func refFolds(n, mountains int) [][]int {
	var l [][]int
	for _, pile := range refList(n) {
		if refMountains(pile) == mountains {
			l = append(l, pile)
		}
	}
	return l
}
