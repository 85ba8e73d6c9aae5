package cones_test

import (
	"cmp"
	"slices"
)

// What the document says, worked out in the plainest way, to hold against the package.

func refTimes(a [][]int, x []int) []int {
	var l []int
	for _, row := range a {
		sum := 0
		for j := range row {
			sum += row[j] * x[j]
		}
		l = append(l, sum)
	}
	return l
}

func refDot(x, y []int) int { return refTimes([][]int{x}, y)[0] }

func refFits(x, y []int) bool {
	for j := range x {
		if x[j] > 0 && (y[j] < x[j]) || x[j] < 0 && (y[j] > x[j]) {
			return false
		}
	}
	return true
}

func isZero(x []int) bool {
	return !slices.ContainsFunc(x, func(n int) bool { return n != 0 })
}

func isWhole(x []int) bool {
	return !slices.ContainsFunc(x, func(n int) bool { return n < 0 })
}

func plus(x, y []int) []int {
	l := slices.Clone(x)
	for j := range y {
		l[j] += y[j]
	}
	return l
}

func minus(x, y []int) []int {
	l := slices.Clone(x)
	for j := range y {
		l[j] -= y[j]
	}
	return l
}

func norm(x []int) int {
	sum := 0
	for _, n := range x {
		sum += max(n, -n)
	}
	return sum
}

// refMoves returns all moves with numbers from -far to far, rising. The last column is solved for, not searched.
func refMoves(a [][]int, far int) [][]int {
	var l [][]int
	x := make([]int, len(a[0]))
	last := len(x) - 1
	var set func(j int)
	set = func(j int) {
		from, to := -far, far
		if j == last {
			x[j] = 0
			for i, sum := range refTimes(a, x) {
				if c := a[i][j]; c != 0 {
					from = max(from, -sum/c)
					to = min(to, -sum/c)
				}
			}
		}
		for n := from; n <= to; n++ {
			x[j] = n
			if j < last {
				set(j + 1)
			} else if isZero(refTimes(a, x)) {
				l = append(l, slices.Clone(x))
			}
		}
		x[j] = 0
	}
	set(0)
	return l
}

// refBasic returns all basic moves, rising. With one row no basic move has a number above 2. With two independent rows one is a sum of at most two multiples, by at most 1, of moves whose numbers are minors of the matrix, at most 8.
func refBasic(a [][]int) [][]int {
	far := 16
	if len(a) == 1 || isZero(a[0]) || isZero(a[1]) {
		far = 3
	}
	moves := refMoves(a, far)
	slices.SortStableFunc(moves, func(x, y []int) int { return cmp.Compare(norm(x), norm(y)) })
	var basic [][]int
	for _, x := range moves {
		if !isZero(x) && !slices.ContainsFunc(basic, func(y []int) bool { return refFits(y, x) }) {
			basic = append(basic, x)
		}
	}
	slices.SortFunc(basic, slices.Compare)
	return basic
}

func refPure(a [][]int) [][]int {
	return slices.DeleteFunc(refBasic(a), func(x []int) bool { return !isWhole(x) })
}

// refWeights returns a sum of multiples of the rows that has only numbers above 0, or false if no small multiples do. Where it is there, families have an end.
func refWeights(a [][]int) ([]int, bool) {
	for p := -8; p <= 8; p++ {
		for q := -8; q <= 8; q++ {
			l := make([]int, len(a[0]))
			for j := range l {
				l[j] = p * a[0][j]
				if len(a) == 2 {
					l[j] += q * a[1][j]
				}
			}
			if slices.Min(l) > 0 {
				return l, true
			}
		}
	}
	return nil, false
}

// refFamily returns the family of x, rising, or false if it has no end.
func refFamily(a [][]int, x []int) ([][]int, bool) {
	weights, ok := refWeights(a)
	if !ok {
		return nil, false
	}
	want := refTimes(a, x)
	var l [][]int
	y := make([]int, len(x))
	var set func(j, rest int)
	set = func(j, rest int) {
		if j == len(y) {
			if rest == 0 && slices.Equal(refTimes(a, y), want) {
				l = append(l, slices.Clone(y))
			}
			return
		}
		for y[j] = 0; y[j]*weights[j] <= rest; y[j]++ {
			set(j+1, rest-y[j]*weights[j])
		}
		y[j] = 0
	}
	set(0, refDot(weights, x))
	return l, true
}

func refBest(family [][]int, prices []int) int {
	least := refDot(prices, family[0])
	for _, y := range family {
		least = min(least, refDot(prices, y))
	}
	return least
}

// refStep returns the step from x, or nil.
func refStep(basic [][]int, x, prices []int) []int {
	var best []int
	for _, move := range basic {
		y := plus(x, move)
		if !isWhole(y) || refDot(prices, y) >= refDot(prices, x) {
			continue
		}
		if best == nil || refDot(prices, y) < refDot(prices, best) || refDot(prices, y) == refDot(prices, best) && slices.Compare(y, best) < 0 {
			best = y
		}
	}
	return best
}

func key(x []int) [4]int {
	var k [4]int
	copy(k[:], x)
	return k
}

// refWay returns how many vectors a shortest way from x to y has, or 0 if it has more than most.
func refWay(basic [][]int, x, y []int, most int) int {
	seen := map[[4]int]bool{key(x): true}
	edge := [][]int{x}
	for n := 1; n <= most; n++ {
		if seen[key(y)] {
			return n
		}
		var next [][]int
		for _, v := range edge {
			for _, move := range basic {
				if w := plus(v, move); isWhole(w) && !seen[key(w)] {
					seen[key(w)] = true
					next = append(next, w)
				}
			}
		}
		edge = next
	}
	return 0
}

func isOneOf(l [][]int, x []int) bool {
	return slices.ContainsFunc(l, func(y []int) bool { return slices.Equal(x, y) })
}

func refIsSplit(basic [][]int, x []int, l [][]int) bool {
	sum := make([]int, len(x))
	for _, y := range l {
		if !isOneOf(basic, y) || !refFits(y, x) {
			return false
		}
		sum = plus(sum, y)
	}
	return slices.Equal(sum, x)
}

func refIsWay(basic [][]int, x, y []int, l [][]int) bool {
	if len(l) == 0 || !slices.Equal(l[0], x) || !slices.Equal(l[len(l)-1], y) {
		return false
	}
	for i, v := range l {
		if len(v) != len(x) || !isWhole(v) || i > 0 && !isOneOf(basic, minus(v, l[i-1])) {
			return false
		}
	}
	return true
}
