package swaps

// has reports whether i is in a set.
func has(set, i int) bool { return set>>i&1 == 1 }

// everybody returns the set of all n collectors, or cards.
func everybody(n int) int { return 1<<n - 1 }

// setOf returns the set of the numbers of a slice.
func setOf(l []int) int {
	set := 0
	for _, i := range l {
		set |= 1 << i
	}
	return set
}
