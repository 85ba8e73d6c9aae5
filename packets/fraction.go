package packets

import "comfit/api"

// fraction returns num of den, which is above 0, in lowest terms.
func fraction(num, den int) api.Frac {
	g := divisor(max(num, -num), den)
	return api.Frac{Num: num / g, Den: den / g}
}

// divisor returns the greatest common divisor of numbers that are not below 0.
func divisor(a, b int) int {
	if b == 0 {
		return a
	}
	return divisor(b, a%b)
}

// plus adds by way of the least common denominator, so that no number gets larger than it has to.
func plus(f, g api.Frac) api.Frac {
	d := divisor(f.Den, g.Den)
	return fraction(f.Num*(g.Den/d)+g.Num*(f.Den/d), f.Den/d*g.Den)
}

// times returns f times a number above 0, which is first divided by what it has in common with f.Den.
func times(f api.Frac, n int) api.Frac {
	d := divisor(n, f.Den)
	return api.Frac{Num: f.Num * (n / d), Den: f.Den / d}
}

func less(f, g api.Frac) bool { return f.Num*g.Den < g.Num*f.Den }

func power(n, exponent int) int {
	p := 1
	for range exponent {
		p *= n
	}
	return p
}
