package tables

import "slices"

// sets are sets of words, with or without the end: one for each of the parts A to E.
type sets [len(parts)]int

// grammar is a slice of rules, with the parts that can be empty and what comes first and next.
type grammar struct {
	rules []Rule
	empty int
	first sets
	next  sets
}

func newGrammar(rules []Rule) grammar {
	g := grammar{rules: rules}
	g.empty = g.partsBy(func(r Rule, empty int) bool { return !r.hasWords() && r.within(empty) })
	g.first = settle(sets{}, g.widerFirst)
	g.next[part(g.beginning())] = end
	g.next = settle(g.next, g.widerNext)
	return g
}

func (g grammar) beginning() byte { return g.rules[0].Left }

// partsBy returns the least set with the left side of each rule that fits it.
func (g grammar) partsBy(fits func(r Rule, set int) bool) int {
	return settle(0, func(set int) int {
		for _, r := range g.rules {
			if fits(r, set) {
				set |= r.left()
			}
		}
		return set
	})
}

// useful returns the set of the parts that make some string.
func (g grammar) useful() int { return g.partsBy(Rule.within) }

// front returns with which words a right side, or what is left of one, can begin, and whether it can be empty.
func (g grammar) front(right string) (set int, empty bool) {
	for i := range len(right) {
		if isWord(right[i]) {
			return set | word(right[i]), false
		}
		set |= g.first[part(right[i])]
		if g.empty>>part(right[i])&1 == 0 {
			return set, false
		}
	}
	return set, true
}

// widerFirst returns the sets of what is first with what the rules add to them.
func (g grammar) widerFirst(first sets) sets {
	g.first = first // of this copy alone: fronts follow from the sets so far
	for _, r := range g.rules {
		set, _ := g.front(r.Right)
		first[part(r.Left)] |= set
	}
	return first
}

// widerNext returns the sets of what is next with what the rules add to them.
func (g grammar) widerNext(next sets) sets {
	for _, r := range g.rules {
		for i := range len(r.Right) {
			if !isPart(r.Right[i]) {
				continue
			}
			set, empty := g.front(r.Right[i+1:])
			if empty {
				set |= next[part(r.Left)]
			}
			next[part(r.Right[i])] |= set
		}
	}
	return next
}

// trim returns the rules that are of use, those of the beginning first; there are none if the beginning makes no string.
func (g grammar) trim() []Rule {
	useful := g.useful()
	sound := slices.DeleteFunc(slices.Clone(g.rules), func(r Rule) bool { return !r.within(useful) })
	reached := settle(1<<part(g.beginning()), func(reached int) int {
		for _, r := range sound {
			if r.left()&reached != 0 {
				reached |= r.parts()
			}
		}
		return reached
	})
	var l, others []Rule
	for _, r := range sound {
		if r.Left == g.beginning() {
			l = append(l, r)
		} else if r.left()&reached != 0 {
			others = append(others, r)
		}
	}
	return append(l, others...)
}

// right returns the right side of a rule, or of the whole.
func (g grammar) right(rule int) string {
	if rule == len(g.rules) {
		return string(g.beginning())
	}
	return g.rules[rule].Right
}

// nextOf returns what may come behind a rule, or behind the whole.
func (g grammar) nextOf(rule int) int {
	if rule == len(g.rules) {
		return end
	}
	return g.next[part(g.rules[rule].Left)]
}

// behind returns the letter behind the dot of an item, or 0 if the dot is at the end.
func (g grammar) behind(i Item) byte {
	right := g.right(i.Rule)
	if i.Dot == len(right) {
		return 0
	}
	return right[i.Dot]
}
