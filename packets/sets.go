package packets

import (
	"iter"
	"math/bits"

	"comfit/api"
)

// has reports whether a kind, which may be any number, is in a set.
func has(set, kind int) bool { return kind >= 0 && set>>kind&1 == 1 }

// kinds ranges over the kinds of a set, rising.
func kinds(set int) iter.Seq[int] {
	return func(yield func(int) bool) {
		for kind := range api.MaxKinds {
			if has(set, kind) && !yield(kind) {
				return
			}
		}
	}
}

// parts ranges over the parts of a set, rising: from the empty one to the set itself.
func parts(set int) iter.Seq[int] {
	return func(yield func(int) bool) {
		part := 0
		for yield(part) && part != set {
			part = (part - set) & set // the bits outside the set carry, so it goes on to the next part
		}
	}
}

// sum returns the sum of the numbers of some kinds, or of some parts of a set.
func sum(members iter.Seq[int], number func(int) api.Frac) api.Frac {
	total := fraction(0, 1)
	for member := range members {
		total = plus(total, number(member))
	}
	return total
}

// alternate returns the sum of the numbers of all parts of a set, those of parts with an odd number of kinds being taken away.
// If the number of a part is the chance that something holds of all its kinds, this is the chance that it holds of none of the set.
func alternate(set int, number func(part int) api.Frac) api.Frac {
	return sum(parts(set), func(part int) api.Frac {
		f := number(part)
		if bits.OnesCount(uint(part))%2 == 1 {
			f.Num = -f.Num
		}
		return f
	})
}
