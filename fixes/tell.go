package fixes

import "math/bits"

// teller tells the states of a works apart by the classes of its rounds.
type teller struct {
	Works
	rounds [][]int
}

// tell returns a formula of the least depth that holds at s and not at t, which are not equal.
func (l teller) tell(s, t int) string {
	if own := l.Marks[s] &^ l.Marks[t]; own != 0 {
		return string(rune('0' + least(own)))
	}
	if next, ok := l.ahead(s, t); ok {
		return "<" + l.tellAll(next, l.Next[t])
	}
	// What tells t apart from s holds at t only, so its opposite does at s.
	return exchange(l.tell(t, s))
}

// ahead returns a next state of s that formulas of less than the least depth tell apart from all next states of t. For depth 0 there is none.
func (l teller) ahead(s, t int) (int, bool) {
	depth := l.depth(s, t)
	if depth == 0 {
		return 0, false
	}
	for next, class := range l.rounds[depth-1] {
		if has(l.Next[s], next) && class&l.Next[t] == 0 {
			return next, true
		}
	}
	return 0, false
}

// depth returns the least depth of a formula that tells two states apart that are not equal.
func (l teller) depth(s, t int) int {
	depth := 0
	for has(l.rounds[depth][s], t) {
		depth++
	}
	return depth
}

// tellAll returns a formula that holds at s and at no state of a set.
func (l teller) tellAll(s, set int) string {
	all := "t"
	for left := set; left != 0; {
		one := l.tell(s, least(left))
		// Most formulas tell s apart from more states than the one: the less is left, the shorter the formula.
		left &= l.where(one)
		if all == "t" {
			all = one
		} else {
			all = "&" + all + one
		}
	}
	return all
}

// least returns the least element of a set that is not empty.
func least(set int) int { return bits.TrailingZeros(uint(set)) }
