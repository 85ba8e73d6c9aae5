package tags

import (
	"math/bits"

	"comfit/api"
)

// What an order does.
const (
	end = iota
	put
	take
)

// used returns o with 0 for what it does not use, or the order to end if it is none.
func (o Order) used() Order {
	switch o.Do {
	case put:
		return Order{Do: put, Jar: o.Jar, Then: o.Then}
	case take:
		return o
	}
	return Order{Do: end}
}

// valid reports whether o may be one of so many orders.
func (o Order) valid(orders int) bool {
	return o == o.used() && between(0, 1, o.Jar) && between(0, orders-1, o.Then, o.Else)
}

// place is an order and what is in both jars.
type place struct {
	order int
	jars  [2]int
}

type machine []Order

func (m machine) valid() bool {
	if !between(1, api.MaxOrders, len(m)) {
		return false
	}
	for _, o := range m {
		if !o.valid(len(m)) {
			return false
		}
	}
	return true
}

// run returns the place after so many steps or at the end, and how many were done.
func (m machine) run(jars [2]int, steps int) (place, int) {
	p := place{0, jars}
	for done := range steps {
		if m.ended(p) {
			return p, done
		}
		p = m.step(p)
	}
	return p, steps
}

// places returns the places of a run after 0, 1 and more steps, up to so many or its end.
func (m machine) places(jars [2]int, steps int) []place {
	p := place{0, jars}
	l := []place{p}
	for range steps {
		if m.ended(p) {
			break
		}
		p = m.step(p)
		l = append(l, p)
	}
	return l
}

func (m machine) ended(p place) bool { return m[p.order] == Order{Do: end} }

// findsEmpty reports whether the order at p is to take from an empty jar.
func (m machine) findsEmpty(p place) bool {
	o := m[p.order]
	return o.Do == take && p.jars[o.Jar] == 0
}

// step returns the place after p, which is not an end.
func (m machine) step(p place) place {
	o := m[p.order]
	if m.findsEmpty(p) {
		p.order = o.Else
		return p
	}
	if o.Do == put {
		p.jars[o.Jar]++
	} else {
		p.jars[o.Jar]--
	}
	p.order = o.Then
	return p
}

// isCircle reports whether i and j, which may be any numbers, are a circle of a run that has the places l.
func (m machine) isCircle(l []place, i, j int) bool {
	if i < 0 || i >= j || j >= len(l) {
		return false
	}
	from, to := l[i], l[j]
	if from.order != to.order || from.jars[0] > to.jars[0] || from.jars[1] > to.jars[1] {
		return false
	}
	for _, p := range l[i:j] {
		// Had a jar that was found empty more the next time, the run could leave the circle.
		if jar := m[p.order].Jar; m.findsEmpty(p) && from.jars[jar] != to.jars[jar] {
			return false
		}
	}
	return true
}

// reached returns the set of the orders to which Then and Else lead from order 0.
func (m machine) reached() int {
	set, before := 1, 0
	for set != before {
		before = set
		for i, o := range m {
			if set>>i&1 == 1 {
				set |= 1<<o.Then | 1<<o.Else // if one is not used, it is 0, which is reached
			}
		}
	}
	return set
}

// fewer returns the orders that are reached, with new numbers.
func (m machine) fewer() []Order {
	set := m.reached()
	number := func(order int) int { return bits.OnesCount(uint(set & (1<<order - 1))) }
	var l []Order
	for i, o := range m {
		if set>>i&1 == 1 {
			o.Then, o.Else = number(o.Then), number(o.Else) // 0, if not used, stays 0
			l = append(l, o)
		}
	}
	return l
}
