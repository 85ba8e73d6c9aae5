package tables_test

import (
	"math"
	"slices"
	"strings"

	"comfit/tables"
)

// grammar returns the rules of a text such as "A>aAb A>".
func grammar(text string) []tables.Rule {
	var g []tables.Rule
	for _, f := range strings.Fields(text) {
		g = append(g, tables.Rule{Left: f[0], Right: f[2:]})
	}
	return g
}

// text returns the text of rules.
func text(g []tables.Rule) string {
	var l []string
	for _, r := range g {
		l = append(l, string(r.Left)+">"+r.Right)
	}
	return strings.Join(l, " ")
}

// Grammars that tests name.
const (
	balanced = "A>aAb A>"
	doubling = "A>AA A>a"
	sums     = "A>AaB A>B B>BbC B>C C>cAd C>cd" // a and b stand for plus and times, c and d for brackets
	places   = "A>BaC A>C B>bC B>c C>B"         // more than Next would have to be known to decide
	empties  = "A>BC B>D B> C>D C> D>"
	fruits   = "A>BC A>aD B>b B> C>c D>AA E>AEd" // E makes no string and is not reached
	lost     = "A>aC A>bBd C>BC B>"              // C makes no string; behind a the table waits for it for ever
	full     = "D>AbAa B>addE E>aDDE D>dBaE A>BBEE B>dddD A>daBA E>dEbD"
	overfull = "D>ADaA B>ccEd C>ccBA E>DCEc E>ccCE D>CCcE A>CcDD B>accc"
)

// chosen returns grammars that show something.
func chosen() [][]tables.Rule {
	var l [][]tables.Rule
	for _, s := range []string{
		balanced, doubling, sums, places, empties, fruits, lost, full, overfull,
		"A>", "A>a", "A>A", "A>B", "A>aaaa", "A>AAAA", "E>", "E>EdE",
		"A>A A>a", "A>A A>", "A>AA A>", "A>AAAA A> A>a", "A>B B>A", "A>B B>A A>a", "A>B B>C C>D D>E E>A E>a",
		"A>aA A>", "A>Aa A>", "A>aAa A>", "A>aAa A>b", "A>aAa A>bAb A>", "A>aAbA A>", "A>AaAb A>",
		"A>aA A>aAbA A>c", "A>aB B>b C>c", "A>B A>C B>a C>a", "A>BC A>a B>b", "A>aBc A>bBd A>aCd A>bCc B> C>",
		"A>BAa A>b B>", "A>BAa B>", "A>BC B>B", "A>BC B>B A>a", "A>BaB B>b B>", "A>Ba A>b B>A B>a",
		"B>aA A>bB A>", "C>AB A>aA A> B>bB B>", "A>ABCD B>b C>c D>d", "A>aB B>bC C>cD D>dE E>a",
		"A>Aa A>B B>Bb B>C C>Cc C>d", "A>aaAA A>aaA A>aAaa A>", "A>a A>b A>c A>d A>AaA A>AbA A>AcA A>AdA",
		"A>BBBB B>a B>", "A>BCDE B>a B> C>b C> D>c E>d", "A>aC A>bBd C>BC B> A>C", "A>aC A>bBda C>BBC B> B>c",
	} {
		l = append(l, grammar(s))
	}
	return l
}

// sides returns all right sides of at most so many of the letters.
func sides(letters string, most int) []string {
	l := []string{""}
	for at := 0; len(l[at]) < most; at++ {
		for i := range letters {
			l = append(l, l[at]+letters[i:i+1])
		}
	}
	return l
}

// stringsFor returns all strings with at most so many of the words of a grammar and one more, by length, then in order.
func stringsFor(g []tables.Rule, most int) []string {
	words, more := "", 1
	for i := range wordLetters {
		if used := strings.ContainsRune(text(g), rune(wordLetters[i])); used || more == 1 {
			words += wordLetters[i : i+1]
			more -= oneIf(!used)
		}
	}
	return sides(words, most)
}

// tiny returns all grammars of 1 or 2 rules with parts A and B, words a and b and right sides of at most 2 letters, the beginning being A.
func tiny() [][]tables.Rule {
	var rules []tables.Rule
	for _, left := range []byte("AB") {
		for _, right := range sides("ABab", 2) {
			rules = append(rules, tables.Rule{Left: left, Right: right})
		}
	}
	var l [][]tables.Rule
	for _, r := range rules {
		if r.Left != 'A' {
			continue
		}
		l = append(l, []tables.Rule{r})
		for _, s := range rules {
			if r != s {
				l = append(l, []tables.Rule{r, s})
			}
		}
	}
	return l
}

// dice is a row of numbers that look as if drawn by lot, the same in every run.
type dice struct{ at uint32 }

func (d *dice) from(low, high int) int {
	d.at = d.at*1664525 + 1013904223
	return low + int(d.at>>8)%(high-low+1)
}

// drawn returns n grammars of 1 to 8 rules.
func drawn(n int) [][]tables.Rule {
	d := &dice{5}
	var l [][]tables.Rule
	for len(l) < n {
		// With few letters they meet often; with many there are long ways from part to part.
		parts, words := "ABCDE"[:d.from(1, 5)], "abcd"[:d.from(1, 4)]
		letters := parts + words + words
		var g []tables.Rule
		rules, most := d.from(1, 8), d.from(1, 4)
		for range 50 {
			r := tables.Rule{Left: parts[d.from(0, len(parts)-1)]}
			for range d.from(0, most) {
				r.Right += string(letters[d.from(0, len(letters)-1)])
			}
			if len(g) < rules && !slices.Contains(g, r) {
				g = append(g, r)
			}
		}
		l = append(l, g)
	}
	return l
}

// rich returns grammars of few letters, most of which make many strings with many trees.
func rich() [][]tables.Rule {
	d := &dice{6}
	var l [][]tables.Rule
	for len(l) < 150 {
		parts, words := "AABBC"[:d.from(1, 5)], "ab"[:d.from(1, 2)]
		letters := words + words + parts
		var g []tables.Rule
		for range d.from(3, 8) {
			r := tables.Rule{Left: parts[d.from(0, len(parts)-1)]}
			for range d.from(0, 3) {
				r.Right += string(letters[d.from(0, len(letters)-1)])
			}
			if !slices.Contains(g, r) {
				g = append(g, r)
			}
		}
		l = append(l, g)
	}
	return l
}

// some returns all kinds of grammars, few of which are large.
func some() [][]tables.Rule { return slices.Concat(chosen(), tiny(), rich(), drawn(2000)) }

// few returns a part of some.
func few() [][]tables.Rule {
	var l [][]tables.Rule
	for i, g := range slices.Concat(tiny(), drawn(1000)) {
		if i%9 == 0 {
			l = append(l, g)
		}
	}
	return slices.Concat(chosen(), rich(), l)
}

// badGrammars returns slices that are no grammars.
func badGrammars() [][]tables.Rule {
	l := [][]tables.Rule{
		nil,
		{},
		{{}},
		{{Left: 0, Right: "a"}},
		{{Left: 'a', Right: "A"}},
		{{Left: 'F', Right: "a"}},
		{{Left: '@', Right: "a"}},
		{{Left: 255, Right: "a"}},
		{{Left: 'A', Right: "e"}},
		{{Left: 'A', Right: "F"}},
		{{Left: 'A', Right: "`"}},
		{{Left: 'A', Right: "@"}},
		{{Left: 'A', Right: "aea"}},
		{{Left: 'A', Right: "A A"}},
		{{Left: 'A', Right: " "}},
		{{Left: 'A', Right: "a\x00"}},
		{{Left: 'A', Right: "\xff"}},
		{{Left: 'A', Right: "a\u0430"}},
		{{Left: 'A', Right: "aaaaa"}},
		{{Left: 'A', Right: "AAAAA"}},
		{{Left: 'A', Right: strings.Repeat("ab", 1000)}},
		grammar("A>a A>a"),
		grammar("A> A>"),
		grammar("A>a B>b C> A>b A>a"),
		grammar("A>a B>b C>c D>d E>a A>A B>B C>C D>D"),
		grammar("A>a A>b A>c A>d A>A A>B A>C A>D A>a"),
	}
	for at := range 8 {
		for _, bad := range []tables.Rule{{Left: 'F', Right: "a"}, {Left: 'A', Right: "x"}, {Left: 'A', Right: "aaaaa"}} {
			g := grammar("A>a B>b C>c D>d E>a A>A B>B C>C")
			g[at] = bad
			l = append(l, g)
		}
	}
	return append(l, slices.Repeat(grammar("A>a"), 1000))
}

// badStrings returns strings that are none of words.
func badStrings() []string {
	return []string{
		"x", "e", "A", "E", "`", " ", "\x00", "\xff", "\u0430", "aAa", "ab ", " ab", "axb", "abcde", "aaaaaaaaa", "abababab\x00", "aaaaaaaaA",
		strings.Repeat("a", 16), strings.Repeat("a", 1<<16),
	}
}

// badNumbers returns numbers that are not from 0 to most.
func badNumbers(most int) []int {
	return []int{-1, -2, most + 1, most + 2, most + 1000, math.MinInt, math.MinInt + 1, math.MaxInt, 1 << 32, -1 << 32}
}
