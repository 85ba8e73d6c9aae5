package tables

import "strings"

// The letters, in the order in which states are found.
const (
	parts   = "ABCDE"
	words   = "abcd"
	letters = parts + words
)

// end is the end of a string, in sets of words.
const end = 1 << len(words)

func isPart(letter byte) bool { return strings.IndexByte(parts, letter) >= 0 }

func isWord(letter byte) bool { return strings.IndexByte(words, letter) >= 0 }

// part returns the number of a part.
func part(letter byte) int { return int(letter - 'A') }

// word returns the set of a word alone.
func word(letter byte) int { return 1 << (letter - 'a') }

// valid reports whether r may be a rule of a grammar.
func (r Rule) valid() bool {
	return isPart(r.Left) && len(r.Right) <= maxRight && strings.Trim(r.Right, letters) == ""
}

// left returns the set of the left side alone.
func (r Rule) left() int { return 1 << part(r.Left) }

// parts returns the set of the parts of the right side.
func (r Rule) parts() int {
	set := 0
	for i := range len(r.Right) {
		if isPart(r.Right[i]) {
			set |= 1 << part(r.Right[i])
		}
	}
	return set
}

// within reports whether all parts of the right side are in a set.
func (r Rule) within(set int) bool { return r.parts()&^set == 0 }

func (r Rule) hasWords() bool { return strings.ContainsAny(r.Right, words) }

// settle takes a step again and again, until it changes nothing.
func settle[T comparable](x T, step func(T) T) T {
	for {
		y := step(x)
		if y == x {
			return x
		}
		x = y
	}
}
