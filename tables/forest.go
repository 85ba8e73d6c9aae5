package tables

// many is how many trees count as no more.
const many = 100

// counts are numbers of trees, at most many, from the parts A to E.
type counts [len(parts)]int

// forest is a grammar with the trees of strings, counted so far.
type forest struct {
	grammar
	known map[string]counts
}

func newForest(g grammar) forest { return forest{g, map[string]counts{}} }

// trees returns how many trees a string has from the beginning.
func (f forest) trees(s string) int { return f.of(s)[part(f.beginning())] }

// of returns how many trees a string has from each part.
func (f forest) of(s string) counts {
	if n, ok := f.known[s]; ok {
		return n
	}
	// Trees of s may have trees of s within them. So they are counted by how many of these lie one within the other,
	// until the numbers stay: as none is counted above many, they do so even if there is no end of the trees.
	return settle(counts{}, func(n counts) counts {
		f.known[s] = n
		return f.grown(s)
	})
}

// grown returns how many trees of s there are whose inner trees are of those that are known.
func (f forest) grown(s string) counts {
	var n counts
	for _, r := range f.rules {
		n[part(r.Left)] = min(n[part(r.Left)]+f.covers(r.Right, s), many)
	}
	return n
}

// covers returns in how many ways a right side, or what is left of one, makes s.
func (f forest) covers(right, s string) int {
	if right == "" && s == "" {
		return 1
	}
	if right == "" {
		return 0
	}
	if isPart(right[0]) {
		return f.coversFrom(part(right[0]), right[1:], s)
	}
	if s == "" || s[0] != right[0] {
		return 0
	}
	return f.covers(right[1:], s[1:])
}

// coversFrom returns in how many ways the part with a number, and the rest of a right side behind it, make s.
func (f forest) coversFrom(number int, rest, s string) int {
	n := 0
	for cut := range len(s) + 1 {
		if trees := f.of(s[:cut])[number]; trees > 0 {
			n = min(n+trees*f.covers(rest, s[cut:]), many)
		}
	}
	return n
}

// having returns the strings with at most most words that have at least so many trees, by length, then in order.
func (f forest) having(trees, most int) []string {
	var l []string
	for _, s := range allStrings(most) {
		if f.trees(s) >= trees {
			l = append(l, s)
		}
	}
	return l
}

// allStrings returns all strings with at most so many words, by length, then in order.
func allStrings(most int) []string {
	l := []string{""}
	for at := 0; len(l[at]) < most; at++ {
		for i := range words {
			l = append(l, l[at]+words[i:i+1])
		}
	}
	return l
}
