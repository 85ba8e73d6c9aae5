package lots

import "comfit/api"

// between reports whether all the numbers are from low to high.
func between(low, high int, l ...int) bool {
	for _, n := range l {
		if n < low || n > high {
			return false
		}
	}
	return true
}

// valid reports whether all are Chances.
func valid(l ...Chance) bool {
	for _, c := range l {
		if !between(1, api.MaxLot, c.Of) || !between(0, c.Of, c.Yes) {
			return false
		}
	}
	return true
}

func (c Chance) above(d Chance) bool { return c.Yes*d.Of > d.Yes*c.Of }

// part returns how many of n things it is, where c.Of divides n.
func (c Chance) part(n int) int { return n / c.Of * c.Yes }

// fraction returns num of den in lowest terms.
func fraction(num, den int) api.Frac {
	g := divisor(num, den)
	return api.Frac{Num: num / g, Den: den / g}
}

// divisor returns the greatest common divisor.
func divisor(a, b int) int {
	for b != 0 {
		a, b = b, a%b
	}
	return a
}

// choose returns how many choices of k out of n things there are; if k is above n, a factor is 0.
func choose(n, k int) int {
	choices := 1
	for i := range k {
		choices = choices * (n - i) / (i + 1)
	}
	return choices
}
