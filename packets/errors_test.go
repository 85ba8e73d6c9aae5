package packets_test

import (
	"testing"

	"comfit/api"
	"comfit/packets"
)

// call is a function of the package with its arguments but for the weights and one set. It reports the error, and whether all other results are zero.
type call struct {
	name string
	do   func(w []int, set int) (api.Errno, bool)
}

func asFrac(f api.Frac, e api.Errno) (api.Errno, bool) { return e, f == api.Frac{} }

// callsWithSet are the functions with a set as an argument, all others being valid for 3 kinds.
func callsWithSet() []call {
	return []call{
		{"Mean", func(w []int, set int) (api.Errno, bool) { return asFrac(packets.Mean(w, set)) }},
		{"Last", func(w []int, set int) (api.Errno, bool) { return asFrac(packets.Last(w, set, 0)) }},
		{"Done", func(w []int, set int) (api.Errno, bool) { return asFrac(packets.Done(w, set, 3)) }},
		{"Exact", func(w []int, set int) (api.Errno, bool) { return asFrac(packets.Exact(w, set, 3)) }},
		{"First a", func(w []int, set int) (api.Errno, bool) { return asFrac(packets.First(w, set, 1)) }},
		{"First b", func(w []int, set int) (api.Errno, bool) { return asFrac(packets.First(w, 1, set)) }},
		{"Enough", func(w []int, set int) (api.Errno, bool) {
			n, e := packets.Enough(w, set, frac(1, 100))
			return e, n == 0
		}},
		{"Enough of 1", func(w []int, set int) (api.Errno, bool) { // it would be api.ErrNone
			n, e := packets.Enough(w, set, frac(1, 1))
			return e, n == 0
		}},
		{"Pairs", func(w []int, set int) (api.Errno, bool) { return asFrac(packets.Pairs(w, set)) }},
	}
}

func callsWithout() []call {
	return []call{
		{"Kinds", func(w []int, _ int) (api.Errno, bool) { return asFrac(packets.Kinds(w, 3)) }},
		{"Merge", func(w []int, _ int) (api.Errno, bool) {
			l, e := packets.Merge(w, 0, 1)
			return e, len(l) == 0
		}},
	}
}

// P4.1 to P4.7: ErrArg if the weights are not valid.
func TestBadWeights(t *testing.T) {
	for _, w := range badWeights() {
		for _, c := range append(callsWithSet(), callsWithout()...) {
			for _, set := range []int{0, 1, 3, -1} {
				if e, zero := c.do(w, set); e != api.ErrArg || !zero {
					t.Error(c.name, w, set, e, zero)
				}
			}
		}
	}
}

// P4.1, P4.2, P4.4 to P4.6: ErrArg if a set is not valid.
func TestBadSets(t *testing.T) {
	for n := 1; n <= 6; n++ {
		w := []int{1, 2, 3, 4, 5, 6}[:n]
		for _, set := range badSets(n) {
			for _, c := range callsWithSet() {
				if e, zero := c.do(w, set); e != api.ErrArg || !zero {
					t.Error(c.name, w, set, e, zero)
				}
			}
		}
	}
}

// P4.1: ErrArg unless the kind is in the set.
func TestBadKindsOfLast(t *testing.T) {
	for n := 1; n <= 6; n++ {
		w := []int{1, 2, 3, 4, 5, 6}[:n]
		for set := range 1 << n {
			for _, kind := range append(badKinds(n), kinds(all(w)&^set)...) {
				if f, e := packets.Last(w, set, kind); f != (api.Frac{}) || e != api.ErrArg {
					t.Error(w, set, kind, f, e)
				}
			}
		}
		for _, set := range badSets(n) {
			for kind := range 7 {
				if f, e := packets.Last(w, set, kind); f != (api.Frac{}) || e != api.ErrArg {
					t.Error(w, set, kind, f, e)
				}
			}
		}
	}
}

// P4.2, P4.3: ErrArg unless there are 0 to 8 packets.
func TestBadNumbers(t *testing.T) {
	for _, number := range badNumbers() {
		for set := range 8 {
			if f, e := packets.Done([]int{1, 2, 3}, set, number); f != (api.Frac{}) || e != api.ErrArg {
				t.Error(set, number, f, e)
			}
			if f, e := packets.Exact([]int{1, 2, 3}, set, number); f != (api.Frac{}) || e != api.ErrArg {
				t.Error(set, number, f, e)
			}
		}
		if f, e := packets.Kinds([]int{1, 2, 3}, number); f != (api.Frac{}) || e != api.ErrArg {
			t.Error(number, f, e)
		}
	}
}

// P4.4: ErrArg unless the sets are not empty.
func TestEmptySetsOfFirst(t *testing.T) {
	for n := 1; n <= 6; n++ {
		w := []int{1, 2, 3, 4, 5, 6}[:n]
		for set := range 1 << n {
			if f, e := packets.First(w, 0, set); f != (api.Frac{}) || e != api.ErrArg {
				t.Error(w, set, f, e)
			}
			if f, e := packets.First(w, set, 0); f != (api.Frac{}) || e != api.ErrArg {
				t.Error(w, set, f, e)
			}
		}
	}
}

// P4.7: ErrArg unless a and b are kinds.
func TestBadKindsOfMerge(t *testing.T) {
	for n := 1; n <= 6; n++ {
		w := []int{1, 1, 1, 1, 1, 1}[:n]
		for _, bad := range badKinds(n) {
			for _, pair := range [][2]int{{0, bad}, {bad, 0}, {n - 1, bad}, {bad, n - 1}, {bad, bad}} {
				if l, e := packets.Merge(w, pair[0], pair[1]); len(l) != 0 || e != api.ErrArg {
					t.Error(w, pair, l, e)
				}
			}
		}
	}
}
