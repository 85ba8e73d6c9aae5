package fixes

import (
	"slices"

	"comfit/api"
)

func (w Works) valid() bool {
	n := len(w.Next)
	if n < 1 || n > api.MaxNodes || len(w.Marks) != n {
		return false
	}
	for s := range n {
		if !w.isSet(w.Next[s]) || w.Marks[s] < 0 || w.Marks[s] >= 1<<maxMarks {
			return false
		}
	}
	return true
}

func (w Works) isState(s int) bool { return s >= 0 && s < len(w.Next) }

func (w Works) isSet(set int) bool { return set >= 0 && set <= w.all() }

// all returns the set of all states.
func (w Works) all() int { return 1<<len(w.Next) - 1 }

// has reports whether s is in a set.
func has(set, s int) bool { return set>>s&1 == 1 }

// before returns the states that have a next state in a set.
func (w Works) before(set int) int {
	states := 0
	for s, next := range w.Next {
		if next&set != 0 {
			states |= 1 << s
		}
	}
	return states
}

// marked returns the states that have a mark.
func (w Works) marked(mark int) int {
	states := 0
	for s, marks := range w.Marks {
		if has(marks, mark) {
			states |= 1 << s
		}
	}
	return states
}

// settle works out a change of a set, each time of the last result, until that stays, and counts how often.
func settle(set int, change func(set int) int) (last, times int) {
	for times = 1; ; times++ {
		next := change(set)
		if next == set {
			return set, times
		}
		set = next
	}
}

// rounds returns, for depth 0, 1 and so on until they stay, the class of each state: the states that no formula of
// this depth tells apart from it.
func (w Works) rounds() [][]int {
	var rounds [][]int
	classes := make([]int, len(w.Next)) // empty, so that for depth 0 it does not count what is next
	for {
		finer := w.split(classes)
		if slices.Equal(finer, classes) {
			return rounds
		}
		rounds = append(rounds, finer)
		classes = finer
	}
}

// split returns for each state those with the same marks and next states in the same classes.
func (w Works) split(classes []int) []int {
	finer := make([]int, len(classes))
	for s := range finer {
		for t := range finer {
			if w.Marks[s] == w.Marks[t] && union(classes, w.Next[s]) == union(classes, w.Next[t]) {
				finer[s] |= 1 << t
			}
		}
	}
	return finer
}

// union returns what is in the classes of the states of a set.
func union(classes []int, set int) int {
	states := 0
	for s, class := range classes {
		if has(set, s) {
			states |= class
		}
	}
	return states
}

// classes returns for each state those that are equal to it.
func (w Works) classes() []int {
	rounds := w.rounds()
	return rounds[len(rounds)-1]
}

// distinct returns each class once, by their least states.
func (w Works) distinct() []int {
	list := []int{}
	for _, class := range w.classes() {
		if !slices.Contains(list, class) {
			list = append(list, class)
		}
	}
	return list
}

func (w Works) quotient() Works {
	classes := w.distinct()
	quotient := Works{}
	for _, class := range classes {
		s := least(class)
		next := 0
		for i, other := range classes {
			if w.Next[s]&other != 0 {
				next |= 1 << i
			}
		}
		quotient.Next = append(quotient.Next, next)
		quotient.Marks = append(quotient.Marks, w.Marks[s])
	}
	return quotient
}
