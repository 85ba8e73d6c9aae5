package swaps

import (
	"iter"
	"slices"

	"comfit/api"
)

// collectors are told by their wishes.
type collectors [][]int

func (c collectors) valid() bool {
	if len(c) < 1 || len(c) > api.MaxNodes {
		return false
	}
	for _, wishes := range c {
		if !c.isAll(wishes) {
			return false
		}
	}
	return true
}

// isAll reports whether l has all collectors, or cards, each once.
func (c collectors) isAll(l []int) bool {
	if len(l) != len(c) {
		return false
	}
	for i := range len(c) {
		if !slices.Contains(l, i) {
			return false
		}
	}
	return true
}

// best returns the card of a set that a collector likes best.
func (c collectors) best(i, set int) int {
	at := slices.IndexFunc(c[i], func(card int) bool { return has(set, card) })
	return c[i][at]
}

// asGood returns the set of the cards that a collector likes at least as well as one.
func (c collectors) asGood(i, card int) int {
	at := slices.Index(c[i], card)
	return setOf(c[i][:at+1])
}

// trade returns the deal by trading in circles, and in which rounds the collectors leave.
func (c collectors) trade() (deal, rounds []int) {
	deal, rounds = make([]int, len(c)), make([]int, len(c))
	there := everybody(len(c))
	for round := 1; there != 0; round++ {
		leaving := c.onCircles(there)
		for i := range len(c) {
			if has(leaving, i) {
				deal[i], rounds[i] = c.best(i, there), round
			}
		}
		there &^= leaving
	}
	return deal, rounds
}

// onCircles returns the set of those who are on a circle of pointing. Whoever points on from one to the next is on a
// circle after at most as many steps as there are collectors, and circles lose nobody by it.
func (c collectors) onCircles(there int) int {
	set := there
	for range len(c) {
		pointed := 0
		for i := range len(c) {
			if has(set, i) {
				pointed |= 1 << c.best(i, there)
			}
		}
		set = pointed
	}
	return set
}

// offers ranges over the deals in which the collectors of a set give each other the cards they have, none of them
// getting a worse one than in a deal, and the others keep their own cards. It goes in order.
func (c collectors) offers(deal []int, set int) iter.Seq[[]int] {
	cards := make([]int, len(c))
	for i := range len(c) {
		cards[i] = 1 << i
		if has(set, i) {
			cards[i] = set & c.asGood(i, deal[i])
		}
	}
	return deals(cards)
}

// least returns the least set with an offer by which it blocks a deal, which is told by who of the set gets a better card.
func (c collectors) least(deal []int, blocks func(set, better int) bool) (int, api.Errno) {
	// The empty set is left out: nobody in it gets a better card.
	for set := 1; set <= everybody(len(c)); set++ {
		for offer := range c.offers(deal, set) {
			if blocks(set, set&changed(deal, offer)) {
				return set, api.OK
			}
		}
	}
	return 0, api.ErrNone
}

// turns returns the deal in which the collectors choose in an order.
func (c collectors) turns(order []int) []int {
	deal := make([]int, len(c))
	left := everybody(len(c))
	for _, i := range order {
		deal[i] = c.best(i, left)
		left &^= 1 << deal[i]
	}
	return deal
}
