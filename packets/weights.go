package packets

import "comfit/api"

// weights are those of the kinds of card in packets.
type weights []int

// all returns the set of all kinds.
func (w weights) all() int { return 1<<len(w) - 1 }

// of returns the sum of the weights of a set.
func (w weights) of(set int) int {
	weight := 0
	for kind := range kinds(set) {
		weight += w[kind]
	}
	return weight
}

// mean returns the average number of packets until each kind of a set came once, and those of twice came twice.
func (w weights) mean(set, twice int) api.Frac {
	// The longest of the waits for the kinds of a set is the sum of the shortest ones for its parts with an odd number of
	// kinds, less those for its other parts, but for the empty one (inclusion and exclusion).
	wait := alternate(set, w.shortest(twice))
	wait.Num = -wait.Num
	return times(wait, w.of(w.all()))
}

// shortest returns the average wait, for a part of a set, until one of its kinds came as often as it has to: the number of packets, divided by the sum of all weights.
//
// The sum of all weights is a factor of every such number. As it is left out until all of them are added, the sums stay
// below 14 and their denominators below 4 * 10^17, whatever the weights are: so they fit into an int.
func (w weights) shortest(twice int) func(part int) api.Frac {
	return func(part int) api.Frac {
		if part == 0 {
			return fraction(0, 1)
		}
		return sum(parts(part&twice), func(once int) api.Frac { return w.stay(part, once) })
	}
}

// stay returns the average part of the wait for which the cards of a part so far are those of once, each of them once.
func (w weights) stay(part, once int) api.Frac {
	// These cards come in any order, with the chance of its weight each; then it takes so long until another one comes.
	number, num, den := 0, 1, w.of(part)
	for kind := range kinds(once) {
		number++
		num *= number * w[kind]
		den *= w.of(part)
	}
	return fraction(num, den)
}

// last returns the chance that a kind of a set comes after all others of it.
func (w weights) last(set, kind int) api.Frac {
	return alternate(set&^(1<<kind), w.before(kind))
}

// before returns the chance, for a part of a set, that a kind comes before all those of the part.
func (w weights) before(kind int) func(part int) api.Frac {
	return func(part int) api.Frac { return fraction(w[kind], w[kind]+w.of(part)) }
}

// first returns the chance that a is there in fewer packets than b.
func (w weights) first(a, b int) api.Frac {
	// That is so if the last kind of both to come is one that a does not need.
	return sum(kinds(b&^a), func(kind int) api.Frac { return w.last(a|b, kind) })
}

func (w weights) done(set, packets int) api.Frac {
	return alternate(set, w.without(w.all(), packets))
}

func (w weights) exact(set, packets int) api.Frac {
	return alternate(set, w.without(set, packets))
}

// without returns the chance, for a part of a set, that all cards in so many packets are of the set but not of the part.
func (w weights) without(set, packets int) func(part int) api.Frac {
	all := power(w.of(w.all()), packets)
	return func(part int) api.Frac { return fraction(power(w.of(set&^part), packets), all) }
}

// different returns how many kinds came on the average in so many packets.
func (w weights) different(packets int) api.Frac {
	return sum(kinds(w.all()), func(kind int) api.Frac { return w.done(1<<kind, packets) })
}
