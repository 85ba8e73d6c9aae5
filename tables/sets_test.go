package tables_test

import (
	"slices"
	"strings"
	"testing"

	"comfit/api"
	"comfit/tables"
)

// P5.1, Example 1
func TestSetsExamples(t *testing.T) {
	for _, x := range []struct {
		g           string
		first, next [5]int
		empty       int
	}{
		{balanced, [5]int{1}, [5]int{18}, 1},
		{doubling, [5]int{1}, [5]int{17}, 0},
		{sums, [5]int{4, 4, 4}, [5]int{25, 27, 27}, 0},
		{places, [5]int{6, 6, 6}, [5]int{16, 17, 17}, 0},
		{fruits, [5]int{7, 2, 4, 7, 7}, [5]int{23, 4, 23, 23, 8}, 2},
		{lost, [5]int{3}, [5]int{16, 8, 16}, 2},
		{empties, [5]int{}, [5]int{16, 16, 16, 16}, 15},
		{"A>", [5]int{}, [5]int{16}, 1},
		{"A>dcba", [5]int{8}, [5]int{16}, 0},
		{"E>cE", [5]int{0, 0, 0, 0, 4}, [5]int{0, 0, 0, 0, 16}, 0},
		// Next to the last letter of a right side is what is next to its left side, through several rules.
		{"A>Ba B>C C>D D>d", [5]int{8, 8, 8, 8}, [5]int{16, 1, 1, 1}, 0},
		// Also next to a letter behind which all can be empty, but not if a word or another part is there.
		{"A>BCDd B>b C>c C> D>a D>", [5]int{2, 2, 4, 1}, [5]int{16, 13, 9, 8}, 12},
		{"A>BCD B>b C>c C> D>a D>", [5]int{2, 2, 4, 1}, [5]int{16, 21, 17, 16}, 12},
		{"A>BCD B>b C>c C> D>a", [5]int{2, 2, 4, 1}, [5]int{16, 5, 1, 16}, 4},
		// A right side begins with what stands behind parts that can be empty; it is empty if all can, and there is no word.
		{"A>BCa B>b B> C>c C>", [5]int{7, 2, 4}, [5]int{16, 5, 1}, 6},
		{"A>BC B>b B> C>c C>", [5]int{6, 2, 4}, [5]int{16, 20, 16}, 7},
		{"A>aB A>B B>", [5]int{1}, [5]int{16, 16}, 3},
		{"A>BaC B> C>", [5]int{1}, [5]int{16, 1, 16}, 6},
		// First ends at parts that make no string, with rules or without; what stands before them counts.
		{"A>aBb B>B", [5]int{1}, [5]int{16, 2}, 0},
		{"A>Ba A>CDb C>", [5]int{}, [5]int{16, 1, 0, 2}, 4},
		{"A>Bc B>bB", [5]int{2, 2}, [5]int{16, 4}, 0},
		{"A>BE B> A>aEd", [5]int{1}, [5]int{16, 0, 0, 0, 24}, 2},
		// Rules that can't be reached count, too; nothing is next to their left side of itself.
		{"A>a B>Cb C>c", [5]int{1, 4, 4}, [5]int{16, 0, 2}, 0},
		{"A>a B>C C>c", [5]int{1, 4, 4}, [5]int{16}, 0},
		{"A>a B>Ad B>Ac", [5]int{1, 1}, [5]int{28}, 0},
		// The same part several times in one right side.
		{"A>BB B>b B>", [5]int{2, 2}, [5]int{16, 18}, 3},
		{"A>BaBc B>b", [5]int{2, 2}, [5]int{16, 5}, 0},
		// The beginning is the first left side, whatever its letter.
		{"C>Ba A>c B>A", [5]int{4, 4, 4}, [5]int{1, 1, 16}, 0},
		{"E>DE D>ab", [5]int{0, 0, 0, 1, 1}, [5]int{0, 0, 0, 1, 16}, 0},
	} {
		if l, e := tables.First(grammar(x.g)); l != x.first || e != api.OK {
			t.Error(x.g, "First", l, e)
		}
		if l, e := tables.Next(grammar(x.g)); l != x.next || e != api.OK {
			t.Error(x.g, "Next", l, e)
		}
		if set, e := tables.Empty(grammar(x.g)); set != x.empty || e != api.OK {
			t.Error(x.g, "Empty", set, e)
		}
	}
}

// P5.1
func TestSets(t *testing.T) {
	for _, g := range some() {
		var first, next [5]int
		empty := 0
		for i, part := range []byte(partLetters) {
			first[i] = refFirstOf(g, string(part))
			next[i] = refNext(g, part, map[byte]bool{})
			empty |= oneIf(refEmpty(g, part)) << i
		}
		if l, e := tables.First(g); l != first || e != api.OK {
			t.Error(text(g), "First", l, e, first)
		}
		if l, e := tables.Next(g); l != next || e != api.OK {
			t.Error(text(g), "Next", l, e, next)
		}
		if set, e := tables.Empty(g); set != empty || e != api.OK {
			t.Error(text(g), "Empty", set, e, empty)
		}
	}
}

// P5.1: if all parts are useful, First is the words with which the strings of a part begin, and a part is empty if it makes the empty string.
func TestSetsOfStrings(t *testing.T) {
	for _, s := range []string{balanced, doubling, sums, places, empties, "A>BCa B>b B> C>c C>", "A>aA A>aAbA A>c", "A>BCD B>b C>c C> D>a D>"} {
		g := grammar(s)
		first, _ := tables.First(g)
		empty, _ := tables.Empty(g)
		for i, part := range []byte(partLetters) {
			own := slices.Insert(slices.Clone(g), 0, tables.Rule{Left: part, Right: string(part)}) // part is the beginning now
			set, makesEmpty := 0, false
			l, e := tables.Words(own, 4)
			for _, s := range l {
				makesEmpty = makesEmpty || s == ""
				for _, c := range []byte(s[:min(1, len(s))]) {
					set |= 1 << (c - 'a')
				}
			}
			if set != first[i] || makesEmpty != (empty>>i&1 == 1) || e != api.OK {
				t.Error(s, string(part), l, first[i], empty, e)
			}
		}
	}
}

// P5.2
func TestUsefulExamples(t *testing.T) {
	for _, x := range []struct {
		g, trimmed string
		useful     int
	}{
		{balanced, balanced, 1},
		{doubling, doubling, 1},
		{sums, sums, 7},
		{fruits, "A>BC A>aD B>b B> C>c D>AA", 15},
		{lost, "A>bBd B>", 3},
		{"A>", "A>", 1},
		{"A>A A>a", "A>A A>a", 1},
		{"A>A A>B B>A B>a", "A>A A>B B>A B>a", 3},
		// No rules are left if the beginning makes no string.
		{"A>A", "", 0},
		{"A>B", "", 0},
		{"A>aAb", "", 0},
		{"A>B B>A C>c", "", 4},
		{"A>aB B>bC D>d", "", 8},
		{"E>A", "", 0},
		// A part that makes no string makes its rules useless, on both sides.
		{"A>aB C>c A>C D>d", "A>C C>c", 13},
		{"A>a A>aB B>aB B>bB", "A>a", 1},
		{"A>a A>BaE B>b", "A>a", 3},
		{"A>B B>bBc B>", "A>B B>bBc B>", 3},
		// What can be reached through such rules alone is of no use either.
		{"A>BC A>a B>b", "A>a", 3},
		{"A>BE A>CD B>b C>c D>Ba D>d", "A>CD B>b C>c D>Ba D>d", 15},
		{"A>BE A>CD B>b C>c D>d", "A>CD C>c D>d", 15},
		// Rules of the beginning come first, then the others, both in their order.
		{"A>aC B>b D>d A>B B>a A>a", "A>B A>a B>b B>a", 11},
		{"B>A A>a B>C C>c A>b B>b", "B>A B>C B>b A>a C>c A>b", 7},
		{"A>BC C>a B>b A>B", "A>BC A>B C>a B>b", 7},
		{"C>AE C>B A>a B>C B>b", "C>B B>C B>b", 7},
		{"A>B D>d B>C C>D E>A", "A>B D>d B>C C>D", 31},
	} {
		if set, e := tables.Useful(grammar(x.g)); set != x.useful || e != api.OK {
			t.Error(x.g, set, e)
		}
		want := api.OK
		if x.trimmed == "" {
			want = api.ErrNone
		}
		if l, e := tables.Trim(grammar(x.g)); text(l) != x.trimmed || e != want {
			t.Error(x.g, text(l), e)
		}
	}
}

// P5.2
func TestUseful(t *testing.T) {
	none := 0
	for _, g := range some() {
		useful := 0
		for i, part := range []byte(partLetters) {
			useful |= oneIf(refUseful(g, part)) << i
		}
		if set, e := tables.Useful(g); set != useful || e != api.OK {
			t.Error(text(g), set, e, useful)
		}
		want := api.OK
		if !refUseful(g, g[0].Left) {
			want = api.ErrNone
			none++
		}
		if l, e := tables.Trim(g); !slices.Equal(l, refTrim(g)) || e != want {
			t.Error(text(g), text(l), e, text(refTrim(g)))
		}
	}
	if none < 100 {
		t.Error("too few grammars whose beginning is not useful:", none)
	}
}

// P5.9: Trim of a trimmed grammar is itself.
func TestTrimTwice(t *testing.T) {
	for _, g := range some() {
		l, e := tables.Trim(g)
		if e == api.ErrNone {
			continue
		}
		again, e := tables.Trim(l)
		if !slices.Equal(again, l) || e != api.OK {
			t.Error(text(g), text(l), text(again), e)
		}
		if l[0].Left != g[0].Left {
			t.Error(text(g), text(l), "another beginning")
		}
	}
}

// P5.9: Trim makes the same strings, with the same trees.
func TestTrimKeepsTrees(t *testing.T) {
	for _, g := range few() {
		l, e := tables.Trim(g)
		words, _ := tables.Words(g, 4)
		if e == api.ErrNone {
			if len(words) > 0 {
				t.Error(text(g), words)
			}
			continue
		}
		if kept, e := tables.Words(l, 4); !slices.Equal(words, kept) || e != api.OK {
			t.Error(text(g), text(l), words, kept, e)
		}
		for _, s := range append(words, "aaaaa", "ababab", "abcdabcd", strings.Repeat("a", 8)) {
			n, _ := tables.Trees(g, s)
			if k, e := tables.Trees(l, s); k != n || e != api.OK {
				t.Error(text(g), text(l), s, n, k, e)
			}
		}
	}
}
