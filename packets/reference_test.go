package packets_test

import (
	"math/big"

	"comfit/api"
)

// What the document says, worked out in the plainest way, to hold against the package: packet by packet.

func rat(num, den int) *big.Rat { return big.NewRat(int64(num), int64(den)) }

func ratOf(f api.Frac) *big.Rat { return rat(f.Num, f.Den) }

// fracOf returns x in lowest terms, as big.Rat keeps it.
func fracOf(x *big.Rat) api.Frac {
	if !x.Num().IsInt64() || !x.Denom().IsInt64() {
		panic("too large")
	}
	return api.Frac{Num: int(x.Num().Int64()), Den: int(x.Denom().Int64())}
}

func sum(l ...*big.Rat) *big.Rat {
	x := new(big.Rat)
	for _, y := range l {
		x.Add(x, y)
	}
	return x
}

// weightOf returns the sum of the weights of a set.
func weightOf(w []int, set int) int {
	weight := 0
	for _, kind := range kinds(set) {
		weight += w[kind]
	}
	return weight
}

func all(w []int) int { return 1<<len(w) - 1 }

// chain goes from packet to packet until enough is there. Its states are the sets of kinds that have to come once more, and of those that have to come twice more.
type chain struct {
	w    []int
	wait map[[2]int]*big.Rat
}

func newChain(w []int) chain { return chain{w, map[[2]int]*big.Rat{}} }

// mean returns the average number of packets from a state to the end: each packet that has none of the open kinds is one more for nothing.
func (c chain) mean(once, twice int) *big.Rat {
	open := once | twice
	if open == 0 {
		return rat(0, 1)
	}
	state := [2]int{once, twice}
	if c.wait[state] != nil {
		return c.wait[state]
	}
	x := rat(weightOf(c.w, all(c.w)), 1)
	for _, kind := range kinds(open) {
		nextOnce, nextTwice := once&^(1<<kind), twice
		if twice>>kind&1 == 1 {
			nextOnce, nextTwice = once|1<<kind, twice&^(1<<kind)
		}
		x.Add(x, new(big.Rat).Mul(rat(c.w[kind], 1), c.mean(nextOnce, nextTwice)))
	}
	x.Quo(x, rat(weightOf(c.w, open), 1))
	c.wait[state] = x
	return x
}

// race goes from each new kind of card to the next one until end says with which chance it is won.
type race struct {
	w    []int
	end  func(came int) (won bool, over bool)
	wins map[int]*big.Rat
}

func newRace(w []int, end func(came int) (won bool, over bool)) race {
	return race{w, end, map[int]*big.Rat{}}
}

func (r race) chance(came int) *big.Rat {
	won, over := r.end(came)
	if over && won {
		return rat(1, 1)
	}
	if over {
		return rat(0, 1)
	}
	if r.wins[came] != nil {
		return r.wins[came]
	}
	x := new(big.Rat)
	missing := all(r.w) &^ came
	for _, kind := range kinds(missing) {
		x.Add(x, new(big.Rat).Mul(rat(r.w[kind], weightOf(r.w, missing)), r.chance(came|1<<kind)))
	}
	r.wins[came] = x
	return x
}

// refLast returns the chance that all others of the set come before a kind does.
func refLast(w []int, set, kind int) *big.Rat {
	others := set &^ (1 << kind)
	return newRace(w, func(came int) (bool, bool) {
		if came>>kind&1 == 1 {
			return false, true
		}
		return true, came&others == others
	}).chance(0)
}

// refFirst returns the chance that a is there in fewer packets than b.
func refFirst(w []int, a, b int) *big.Rat {
	return newRace(w, func(came int) (bool, bool) {
		if came&b == b {
			return false, true
		}
		return true, came&a == a
	}).chance(0)
}

// refSame returns the chance that a and b are there after the same packet.
func refSame(w []int, a, b int) *big.Rat {
	return newRace(w, func(came int) (bool, bool) {
		return came&b == b && came&a == a, came&b == b || came&a == a
	}).chance(0)
}

// refCame returns for each number of packets and each set the number of rows of cards that have just the kinds of the set, a kind with the weight k being k cards.
func refCame(w []int) [9][]int {
	var l [9][]int
	l[0] = make([]int, 1<<len(w))
	l[0][0] = 1
	for packets := 1; packets <= 8; packets++ {
		l[packets] = make([]int, 1<<len(w))
		for set, rows := range l[packets-1] {
			for kind, weight := range w {
				l[packets][set|1<<kind] += rows * weight
			}
		}
	}
	return l
}

// chanceOf returns rows of cards as a part of all rows in so many packets.
func chanceOf(w []int, rows, packets int) *big.Rat {
	x := rat(rows, 1)
	for range packets {
		x.Mul(x, rat(1, weightOf(w, all(w))))
	}
	return x
}

// having returns the number of rows that have all kinds of a set.
func having(rows []int, set int) int {
	n := 0
	for other, number := range rows {
		if other&set == set {
			n += number
		}
	}
	return n
}

func refEnough(w []int, came [9][]int, set int, chance api.Frac) (int, api.Errno) {
	for packets, rows := range came {
		if chanceOf(w, having(rows, set), packets).Cmp(ratOf(chance)) >= 0 {
			return packets, api.OK
		}
	}
	return 0, api.ErrNone
}
