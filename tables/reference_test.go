package tables_test

import (
	"fmt"
	"maps"
	"slices"
	"strings"

	"comfit/tables"
)

// What the document says, worked out in the plainest way, to hold against the package.

const (
	partLetters = "ABCDE"
	wordLetters = "abcd"
	bothLetters = partLetters + wordLetters
)

func isPart(c byte) bool { return strings.IndexByte(partLetters, c) >= 0 }

// refMakes reports whether a part has a tree, with words or without, in which no part comes a second time on the way down. If it has any tree, it has such a one.
func refMakes(g []tables.Rule, part byte, above string, words bool) bool {
	if strings.IndexByte(above, part) >= 0 {
		return false
	}
	return slices.ContainsFunc(g, func(r tables.Rule) bool {
		return r.Left == part && !strings.ContainsFunc(r.Right, func(c rune) bool {
			if isPart(byte(c)) {
				return !refMakes(g, byte(c), above+string(part), words)
			}
			return !words
		})
	})
}

func refEmpty(g []tables.Rule, part byte) bool { return refMakes(g, part, "", false) }

func refUseful(g []tables.Rule, part byte) bool { return refMakes(g, part, "", true) }

// refFirst adds the words with which a right side begins, going down to the rules of its parts, each part once.
func refFirst(g []tables.Rule, right string, seen map[byte]bool, add func(word byte)) {
	for i := range len(right) {
		if !isPart(right[i]) {
			add(right[i])
			return
		}
		if !seen[right[i]] {
			seen[right[i]] = true
			for _, r := range g {
				if r.Left == right[i] {
					refFirst(g, r.Right, seen, add)
				}
			}
		}
		if !refEmpty(g, right[i]) {
			return
		}
	}
}

func refFirstOf(g []tables.Rule, right string) int {
	set := 0
	refFirst(g, right, map[byte]bool{}, func(word byte) { set |= 1 << (word - 'a') })
	return set
}

// refNext returns what is next to a part, going up to the parts that can end with it, each part once.
func refNext(g []tables.Rule, part byte, seen map[byte]bool) int {
	if seen[part] {
		return 0
	}
	seen[part] = true
	set := 0
	if part == g[0].Left {
		set = 16
	}
	for _, r := range g {
		for i := range len(r.Right) {
			if r.Right[i] != part {
				continue
			}
			behind := r.Right[i+1:]
			set |= refFirstOf(g, behind)
			if !strings.ContainsFunc(behind, func(c rune) bool { return !isPart(byte(c)) || !refEmpty(g, byte(c)) }) {
				set |= refNext(g, r.Left, seen)
			}
		}
	}
	return set
}

// refTrim leaves out rules that are of no use, one after the other, until all are of use.
func refTrim(g []tables.Rule) []tables.Rule {
	l := slices.Clone(g)
	for {
		at := slices.IndexFunc(l, func(r tables.Rule) bool {
			reached := r.Left == g[0].Left || refReaches(l, g[0].Left, r.Left, "")
			return !reached || strings.ContainsFunc(string(r.Left)+r.Right, func(c rune) bool { return isPart(byte(c)) && !refUseful(l, byte(c)) })
		})
		if at < 0 {
			break
		}
		l = slices.Delete(l, at, at+1)
	}
	slices.SortStableFunc(l, func(r, s tables.Rule) int {
		return oneIf(r.Left != g[0].Left) - oneIf(s.Left != g[0].Left)
	})
	return l
}

func oneIf(ok bool) int {
	if ok {
		return 1
	}
	return 0
}

// refReaches reports whether the rules lead from a part to another one.
func refReaches(g []tables.Rule, from, to byte, above string) bool {
	if strings.IndexByte(above, from) >= 0 {
		return false
	}
	return slices.ContainsFunc(g, func(r tables.Rule) bool {
		return r.Left == from && strings.ContainsFunc(r.Right, func(c rune) bool {
			return byte(c) == to || isPart(byte(c)) && refReaches(g, byte(c), to, above+string(from))
		})
	})
}

// refTable has all states of a reader and where letters lead, in lists of items.
type refTable struct {
	g      []tables.Rule
	states [][]tables.Item
	goes   []map[byte]int
}

func (t refTable) right(rule int) string {
	if rule == len(t.g) {
		return string(t.g[0].Left)
	}
	return t.g[rule].Right
}

func (t refTable) close(items []tables.Item) []tables.Item {
	for at := 0; at < len(items); at++ {
		rest := t.right(items[at].Rule)[items[at].Dot:]
		for rule, r := range t.g {
			item := tables.Item{Rule: rule}
			if rest != "" && rest[0] == r.Left && !slices.Contains(items, item) {
				items = append(items, item)
			}
		}
	}
	slices.SortFunc(items, func(x, y tables.Item) int {
		if x.Rule != y.Rule {
			return x.Rule - y.Rule
		}
		return x.Dot - y.Dot
	})
	return items
}

// refStates returns the table, with states up to the 200th.
func refStates(g []tables.Rule) refTable {
	t := refTable{g: g}
	t.states = append(t.states, t.close([]tables.Item{{Rule: len(g)}}))
	numbers := map[string]int{fmt.Sprint(t.states[0]): 0}
	for at := 0; at < len(t.states) && at < 200; at++ {
		goes := map[byte]int{}
		for _, letter := range []byte(bothLetters) {
			var items []tables.Item
			for _, i := range t.states[at] {
				if rest := t.right(i.Rule)[i.Dot:]; rest != "" && rest[0] == letter {
					items = append(items, tables.Item{Rule: i.Rule, Dot: i.Dot + 1})
				}
			}
			if len(items) == 0 {
				continue
			}
			items = t.close(items)
			name := fmt.Sprint(items)
			if _, ok := numbers[name]; !ok {
				numbers[name] = len(t.states)
				t.states = append(t.states, items)
			}
			goes[letter] = numbers[name]
		}
		t.goes = append(t.goes, goes)
	}
	return t
}

// conflicts returns the states with two items, or an item and a word, between which the table can't decide.
func (t refTable) conflicts() []int {
	next := []int{}
	for _, r := range t.g {
		next = append(next, refNext(t.g, r.Left, map[byte]bool{}))
	}
	next = append(next, 16)
	var l []int
	for at, items := range t.states {
		conflict := false
		for i, x := range items {
			if x.Dot < len(t.right(x.Rule)) {
				continue
			}
			for _, y := range items[i+1:] {
				conflict = conflict || y.Dot == len(t.right(y.Rule)) && next[x.Rule]&next[y.Rule] != 0
			}
			for _, word := range []byte(wordLetters) {
				_, over := t.goes[at][word]
				conflict = conflict || over && next[x.Rule]>>(word-'a')&1 == 1
			}
		}
		if conflict {
			l = append(l, at)
		}
	}
	return l
}

// span is what a part makes: the words of a string from a place to another one.
type span struct {
	part     byte
	from, to int
}

// refTrees returns how many trees a string has from the beginning, at most most: of height 1, of height up to 2, and so on until no more are found.
func refTrees(g []tables.Rule, s string, most int) int {
	trees := map[span]int{}
	for {
		higher := map[span]int{}
		for _, r := range g {
			for from := range len(s) + 1 {
				for to := from; to <= len(s); to++ {
					at := span{r.Left, from, to}
					if n := min(higher[at]+refCovers(r.Right, s, from, to, trees, most), most); n > 0 {
						higher[at] = n
					}
				}
			}
		}
		if maps.Equal(trees, higher) {
			return trees[span{g[0].Left, 0, len(s)}]
		}
		trees = higher
	}
}

// refCovers returns in how many ways trees make the words of s from a place to another one, one behind the other, as a right side says; the last letter first.
func refCovers(right, s string, from, to int, trees map[span]int, most int) int {
	if right == "" {
		return oneIf(from == to)
	}
	rest, letter := right[:len(right)-1], right[len(right)-1]
	if !isPart(letter) {
		if from < to && s[to-1] == letter {
			return refCovers(rest, s, from, to-1, trees, most)
		}
		return 0
	}
	n := 0
	for cut := from; cut <= to; cut++ {
		if k := trees[span{letter, cut, to}]; k > 0 {
			n += k * refCovers(rest, s, from, cut, trees, most)
		}
	}
	return min(n, most)
}

// refLeast returns for each part the least number of words that it makes, 1000 if it makes no string.
func refLeast(g []tables.Rule) map[byte]int {
	least := map[byte]int{}
	for _, part := range []byte(partLetters) {
		least[part] = 1000
	}
	for range 6 {
		for _, r := range g {
			least[r.Left] = min(least[r.Left], refLength(r.Right, least))
		}
	}
	return least
}

func refLength(form string, least map[byte]int) int {
	n := 0
	for i := range len(form) {
		if isPart(form[i]) {
			n += least[form[i]]
		} else {
			n++
		}
	}
	return min(n, 1000)
}

// listing lists the trees of a string: for each the rules that replace the first part again and again.
type listing struct {
	g     []tables.Rule
	least map[byte]int
	trees [][]int
	steps int
	cut   bool
}

// refList returns all trees of a string, and whether these are all: the search is cut short where it gets too long.
func refList(g []tables.Rule, s string) ([][]int, bool) {
	l := &listing{g: g, least: refLeast(g)}
	l.from(string(g[0].Left), s, nil)
	return l.trees, !l.cut
}

func (l *listing) from(form, s string, rules []int) {
	for form != "" && s != "" && form[0] == s[0] {
		form, s = form[1:], s[1:]
	}
	if form == "" && s == "" {
		l.trees = append(l.trees, slices.Clone(rules))
	}
	if form == "" || !isPart(form[0]) || refLength(form, l.least) > len(s) {
		return
	}
	l.steps++
	l.cut = l.cut || l.steps > 20000 || len(rules) > 60
	for rule, r := range l.g {
		if r.Left == form[0] && !l.cut {
			l.from(r.Right+form[1:], s, append(rules, rule))
		}
	}
}

// refEnds returns the rules of a tree in the order in which their right sides end, of its rules from the top down, and what is left of these behind the tree.
func refEnds(g []tables.Rule, tree []int) (ends, left []int) {
	rule := tree[0]
	left = tree[1:]
	for i := range len(g[rule].Right) {
		if isPart(g[rule].Right[i]) {
			var inner []int
			inner, left = refEnds(g, left)
			ends = append(ends, inner...)
		}
	}
	return append(ends, rule), left
}

// allStrings returns all strings with at most so many words, by length, then in order.
func allStrings(most int) []string { return sides(wordLetters, most) }
