package fixes_test

import (
	"slices"
	"strings"

	"comfit/fixes"
)

// tree is a formula with its parts.
type tree struct {
	sign  byte
	name  byte // the digit behind -, or the letter behind m or g
	parts []tree
}

// refTree returns the tree of the formula at the front of a text, and what is behind it.
func refTree(text string) (tree, string) {
	t := tree{sign: text[0]}
	text = text[1:]
	if strings.IndexByte("-mg", t.sign) >= 0 {
		t.name, text = text[0], text[1:]
	}
	for range map[byte]int{'&': 2, '|': 2, '<': 1, '[': 1, 'm': 1, 'g': 1}[t.sign] {
		var part tree
		part, text = refTree(text)
		t.parts = append(t.parts, part)
	}
	return t, text
}

func (t tree) text() string {
	s := string(rune(t.sign))
	if t.name != 0 {
		s += string(rune(t.name))
	}
	for _, part := range t.parts {
		s += part.text()
	}
	return s
}

// refIs reports whether a text, of any length, is a formula within an m or g of each open letter.
func refIs(text, open string, known map[string]bool) bool {
	if len(text) < 2 {
		return text != "" && strings.Contains("0123tf"+open, text)
	}
	switch sign, rest := text[0], text[1:]; sign {
	case '-':
		return len(rest) == 1 && strings.Contains("0123", rest)
	case '<', '[':
		return refIs(rest, open, known)
	case 'm', 'g':
		letter := rest[:1]
		return strings.Contains("xyz", letter) && !strings.Contains(open, letter) && refIs(rest[1:], open+letter, known)
	case '&', '|':
		name := text + " within " + open
		is, ok := known[name]
		for i := 1; i < len(rest) && !ok && !is; i++ {
			is = refIs(rest[:i], open, known) && refIs(rest[i:], open, known)
		}
		known[name] = is
		return is
	}
	return false
}

// refOpposite returns the tree of the formula of all other states.
func refOpposite(t tree) tree {
	if t.sign >= '0' && t.sign <= '3' {
		return tree{sign: '-', name: t.sign}
	}
	if t.sign == '-' {
		return tree{sign: t.name}
	}
	not := tree{sign: t.sign, name: t.name}
	if other, ok := map[byte]byte{'t': 'f', 'f': 't', '&': '|', '|': '&', '<': '[', '[': '<', 'm': 'g', 'g': 'm'}[t.sign]; ok {
		not.sign = other
	}
	for _, part := range t.parts {
		not.parts = append(not.parts, refOpposite(part))
	}
	return not
}

// refDeep returns the greatest number of < and [ within each other.
func refDeep(t tree) int {
	deep := 0
	for _, part := range t.parts {
		deep = max(deep, refDeep(part))
	}
	if t.sign == '<' || t.sign == '[' {
		deep++
	}
	return deep
}

// refHolds returns where a formula holds, with sets for its letters.
func refHolds(w fixes.Works, formula string, sets map[byte]int) int {
	t, _ := refTree(formula)
	return refWhere(w, t, sets)
}

func refWhere(w fixes.Works, t tree, sets map[byte]int) int {
	if t.sign == 'm' || t.sign == 'g' {
		return refFixed(w, t, sets)
	}
	if set, ok := sets[t.sign]; ok {
		return set
	}
	var where []int
	for _, part := range t.parts {
		where = append(where, refWhere(w, part, sets))
	}
	states := 0
	for s := range w.Next {
		if refTrue(w, t, where, s) {
			states += 1 << s
		}
	}
	return states
}

// refTrue reports whether a formula holds at s if its parts do in some sets.
func refTrue(w fixes.Works, t tree, where []int, s int) bool {
	switch t.sign {
	case 't', 'f':
		return t.sign == 't'
	case '-':
		return !slices.Contains(elements(w.Marks[s]), int(t.name-'0'))
	case '&':
		return contains(where[0], s) && contains(where[1], s)
	case '|':
		return contains(where[0], s) || contains(where[1], s)
	case '<':
		return slices.ContainsFunc(elements(w.Next[s]), func(next int) bool { return contains(where[0], next) })
	case '[':
		return !slices.ContainsFunc(elements(w.Next[s]), func(next int) bool { return !contains(where[0], next) })
	}
	return slices.Contains(elements(w.Marks[s]), int(t.sign-'0'))
}

// refFixed returns the least or the greatest set with which the formula behind m or g holds there, or -1 if there is none.
func refFixed(w fixes.Works, t tree, sets map[byte]int) int {
	var fixed []int
	for set := range everything(w) + 1 {
		with := map[byte]int{t.name: set}
		for letter, value := range sets {
			with[letter] = value
		}
		if refWhere(w, t.parts[0], with) == set {
			fixed = append(fixed, set)
		}
	}
	for _, set := range fixed {
		extreme := !slices.ContainsFunc(fixed, func(other int) bool {
			return t.sign == 'm' && !isPart(set, other) || t.sign == 'g' && !isPart(other, set)
		})
		if extreme {
			return set
		}
	}
	return -1
}

// refSteps returns how often the formula behind m or g and its letter is worked out.
func refSteps(w fixes.Works, formula string) int {
	t, _ := refTree(formula)
	set := map[byte]int{'m': 0, 'g': everything(w)}[t.sign]
	steps := 0
	for {
		next := refWhere(w, t.parts[0], map[byte]int{t.name: set})
		steps++
		if next == set {
			return steps
		}
		set = next
	}
}

// everything is the set of all states.
func everything(w fixes.Works) int {
	all := 0
	for s := range w.Next {
		all += 1 << s
	}
	return all
}

func elements(set int) []int {
	var l []int
	for e := 0; set > 0; e++ {
		if set%2 == 1 {
			l = append(l, e)
		}
		set /= 2
	}
	return l
}

func contains(set, e int) bool { return slices.Contains(elements(set), e) }

func isPart(set, of int) bool { return set|of == of }

// partitions returns all partitions of n states: for each one the number of the class of each state, by first states.
func partitions(n int) [][]int {
	l := [][]int{{}}
	for range n {
		var longer [][]int
		for _, p := range l {
			for class := range len(p) + 1 {
				if class == 0 || slices.Contains(p, class-1) {
					longer = append(longer, append(slices.Clone(p), class))
				}
			}
		}
		l = longer
	}
	return l
}

// isStable reports whether states of one class have the same marks, and next states in the same classes.
func isStable(w fixes.Works, p []int) bool {
	next := func(s int) int {
		classes := 0
		for _, n := range elements(w.Next[s]) {
			classes |= 1 << p[n]
		}
		return classes
	}
	for s := range p {
		for t := range s {
			if p[s] == p[t] && (w.Marks[s] != w.Marks[t] || next(s) != next(t)) {
				return false
			}
		}
	}
	return true
}

// refPartition returns the coarsest partition into classes of equal states.
func refPartition(w fixes.Works) []int {
	var coarsest []int
	for _, p := range partitions(len(w.Next)) {
		if isStable(w, p) && (coarsest == nil || slices.Max(p) < slices.Max(coarsest)) {
			coarsest = p
		}
	}
	return coarsest
}

func refClasses(w fixes.Works) []int {
	p := refPartition(w)
	l := make([]int, slices.Max(p)+1)
	for s, class := range p {
		l[class] += 1 << s
	}
	return l
}

func refQuotient(w fixes.Works) fixes.Works {
	p := refPartition(w)
	number := slices.Max(p) + 1
	q := fixes.Works{Next: make([]int, number), Marks: make([]int, number)}
	for s, class := range p {
		q.Marks[class] = w.Marks[s]
		for _, next := range elements(w.Next[s]) {
			q.Next[class] |= 1 << p[next]
		}
	}
	return q
}

// refFamilies returns, for each depth up to the number of states, all sets where a formula of at most this depth without m, g and letters holds.
func refFamilies(w fixes.Works) []map[int]bool {
	marks := map[int]bool{0: true, everything(w): true}
	for digit := range 4 {
		set := refHolds(w, string(rune('0'+digit)), nil)
		marks[set] = true
		marks[everything(w)-set] = true
	}
	l := []map[int]bool{closed(marks)}
	for range w.Next {
		deeper := map[int]bool{}
		for set := range marks {
			deeper[set] = true
		}
		for set := range l[len(l)-1] {
			deeper[refHolds(w, "<x", map[byte]int{'x': set})] = true
			deeper[refHolds(w, "[x", map[byte]int{'x': set})] = true
		}
		l = append(l, closed(deeper))
	}
	return l
}

// closed returns the sets that sets make by & and |.
func closed(sets map[int]bool) map[int]bool {
	all := map[int]bool{}
	var work []int
	for set := range sets {
		work = append(work, set)
	}
	for len(work) > 0 {
		set := work[0]
		work = work[1:]
		if all[set] {
			continue
		}
		all[set] = true
		for other := range all {
			work = append(work, set&other, set|other)
		}
	}
	return all
}

// refDepth returns the least depth of a formula that holds at s and not at t, or -1.
func refDepth(families []map[int]bool, s, t int) int {
	for depth, family := range families {
		for set := range family {
			if contains(set, s) && !contains(set, t) {
				return depth
			}
		}
	}
	return -1
}

// refFrom returns the states that one comes to from s, after some steps and never out of a set behind s.
func refFrom(w fixes.Works, s, within int) int {
	found := 0
	for work := []int{s}; len(work) > 0; work = work[1:] {
		for _, next := range elements(w.Next[work[0]] & within) {
			if !contains(found, next) {
				found += 1 << next
				work = append(work, next)
			}
		}
	}
	return found
}

func refReach(w fixes.Works, set int) int {
	states := 0
	for s := range w.Next {
		if contains(set, s) || refFrom(w, s, everything(w))&set != 0 {
			states += 1 << s
		}
	}
	return states
}

// refAlways returns the states from which one comes, within a set, to a state that comes again.
func refAlways(w fixes.Works, set int) int {
	states := 0
	for _, s := range elements(set) {
		if slices.ContainsFunc(elements(refFrom(w, s, set)), func(t int) bool { return contains(refFrom(w, t, set), t) }) {
			states += 1 << s
		}
	}
	return states
}
