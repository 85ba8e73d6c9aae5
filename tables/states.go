package tables

import (
	"slices"
	"strings"

	"comfit/api"
)

// state is a set of items: for each rule, and for the whole, the set of its dots.
type state [api.MaxRules + 1]int

// items returns the items by rule, then by dot.
func (s state) items() []Item {
	var l []Item
	for rule, dots := range s {
		for dot := range maxRight + 1 {
			if dots>>dot&1 == 1 {
				l = append(l, Item{rule, dot})
			}
		}
	}
	return l
}

// closure returns the state with the rules of each part behind a dot.
func (g grammar) closure(s state) state {
	return settle(s, func(s state) state {
		for _, item := range s.items() {
			for rule, r := range g.rules {
				if g.behind(item) == r.Left {
					s[rule] |= 1
				}
			}
		}
		return s
	})
}

// going returns the state to which a letter leads, without items if it leads nowhere.
func (g grammar) going(s state, letter byte) state {
	var gone state
	for _, item := range s.items() {
		if g.behind(item) == letter {
			gone[item.Rule] |= 1 << (item.Dot + 1)
		}
	}
	return g.closure(gone)
}

// nowhere stands for the number of a state where there is none.
const nowhere = -1

// table is a grammar with the states of its reader, and where the letters lead from each of them.
type table struct {
	grammar
	states []state
	ways   [][len(letters)]int
}

// newTable returns the table of a grammar, unless it has too many states.
func newTable(g grammar) (table, bool) {
	t := table{grammar: g}
	var start state
	start[len(g.rules)] = 1
	t.states = append(t.states, t.closure(start))
	for at := 0; at < len(t.states); at++ {
		var ways [len(letters)]int
		for i := range letters {
			ways[i] = t.number(t.going(t.states[at], letters[i]))
		}
		t.ways = append(t.ways, ways)
		if len(t.states) > maxStates {
			return table{}, false
		}
	}
	return t, true
}

// number returns the number of a state, which is a new one if it was not found before.
func (t *table) number(s state) int {
	if s == (state{}) {
		return nowhere
	}
	at := slices.Index(t.states, s)
	if at < 0 {
		at = len(t.states)
		t.states = append(t.states, s)
	}
	return at
}

// over returns where a letter leads from a state, and whether it leads anywhere.
func (t table) over(at int, letter byte) (int, bool) {
	next := t.ways[at][strings.IndexByte(letters, letter)]
	return next, next != nowhere
}

// ended returns the rules of a state, and the whole, whose dot is at the end.
func (t table) ended(at int) []int {
	var l []int
	for _, item := range t.states[at].items() {
		if t.behind(item) == 0 {
			l = append(l, item.Rule)
		}
	}
	return l
}

// wordsOver returns the words over which one can go from a state.
func (t table) wordsOver(at int) int {
	set := 0
	for i := range words {
		if _, ok := t.over(at, words[i]); ok {
			set |= word(words[i])
		}
	}
	return set
}

func (t table) hasConflict(at int) bool {
	taken := t.wordsOver(at)
	for _, rule := range t.ended(at) {
		if t.nextOf(rule)&taken != 0 {
			return true
		}
		taken |= t.nextOf(rule)
	}
	return false
}

// conflicts returns all states with a conflict, rising.
func (t table) conflicts() []int {
	var l []int
	for at := range t.states {
		if t.hasConflict(at) {
			l = append(l, at)
		}
	}
	return l
}

// read returns the rules of the tree of s as their right sides end. The table must decide, and s must have a tree.
func (t table) read(s string) []int {
	var rules []int
	path := []int{0} // the states of what was read, and of which no rule has ended
	for {
		rule, ends := t.ending(path[len(path)-1], s)
		if !ends {
			path = t.longer(path, s[0])
			s = s[1:]
			continue
		}
		if rule == len(t.rules) {
			return rules
		}
		rules = append(rules, rule)
		path = t.longer(path[:len(path)-len(t.right(rule))], t.rules[rule].Left)
	}
}

// longer returns the path with the state to which a letter leads from its last one.
func (t table) longer(path []int, letter byte) []int {
	next, _ := t.over(path[len(path)-1], letter)
	return append(path, next)
}

// ending returns the rule, or the whole, that ends in a state where rest is still to be read, and whether there is one.
func (t table) ending(at int, rest string) (int, bool) {
	ahead := end
	if rest != "" {
		ahead = word(rest[0])
	}
	for _, rule := range t.ended(at) {
		if t.nextOf(rule)&ahead != 0 {
			return rule, true
		}
	}
	return 0, false
}
