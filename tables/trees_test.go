package tables_test

import (
	"slices"
	"strings"
	"testing"

	"comfit/api"
	"comfit/tables"
)

// P5.6, Examples 1 and 2
func TestTreesExamples(t *testing.T) {
	for _, x := range []struct {
		g, s string
		want int
	}{
		{balanced, "", 1}, {balanced, "ab", 1}, {balanced, "aabb", 1}, {balanced, "aaaabbbb", 1},
		{balanced, "a", 0}, {balanced, "ba", 0}, {balanced, "abab", 0}, {balanced, "c", 0},
		{doubling, "", 0}, {doubling, "a", 1}, {doubling, "aa", 1}, {doubling, "aaa", 2}, {doubling, "aaaa", 5}, {doubling, "aaaaa", 14},
		{doubling, "aaaaaa", 42}, {doubling, "aaaaaaa", 100}, {doubling, "aaaaaaaa", 100}, {doubling, "aab", 0},
		{sums, "cd", 1}, {sums, "cdbcdacd", 1}, {sums, "cacdd", 0}, {sums, "ccddacd", 1}, {sums, "dc", 0},
		{fruits, "c", 1}, {fruits, "bc", 1}, {fruits, "acbc", 1}, {fruits, "aaccc", 1}, {fruits, "cc", 0}, {fruits, "aacccbcc", 0},
		{lost, "bd", 1}, {lost, "a", 0}, {lost, "ad", 0}, {lost, "", 0},
		// The numbers beside 100.
		{"A>AAaa A>aAa A>aaaA A>", "aaaaaaaa", 99}, {"B> B>aB B>Bb B>Bbbb", "aaaabbbb", 100}, {"A>AAA A>aA A>a A>aa", "aaaaaa", 100}, // of 101
		// Trees without end, at a string, at the empty one, or at a part of a string.
		{"A>A A>a", "a", 100}, {"A>A A>a", "", 0}, {"A>A A>a", "aa", 0}, {"A>A", "", 0}, {"A>A A>", "", 100},
		{"A>AA A>", "", 100}, {"A>AA A>", "a", 0}, {"A>AA A> A>a", "a", 100}, {"A>AAAA A> A>a", "aaaaaaaa", 100},
		{"A>B B>A A>a", "a", 100}, {"A>B B>C C>D D>E E>A E>a", "a", 100}, {"A>B B>C C>D D>E E>a", "a", 1}, {"E>D D>C C>B B>A A>E A>a", "a", 100},
		{"A>bBb A>a B>B B>", "bb", 100}, {"A>bBb A>a B>B B>", "a", 1}, {"A>bBb A>a B>B B>", "b", 0},
		{"A>aA A>B B>BC C> B>b", "aaaaaaab", 100}, {"A>aA A>B B>BC C> B>b", "aaaaaaaa", 0},
		// Cycles of parts that make no string, or not this one, make no trees.
		{"A>a A>B B>B", "a", 1}, {"A>a A>BC B>B B>", "a", 1}, {"A>a A>bBb B>B B>", "a", 1}, {"A>a A>AB", "a", 1},
		// The same rule at several places, and the same words by several rules.
		{"A>BB B>a B>", "a", 2}, {"A>BB B>a B>", "aa", 1}, {"A>BB B>a B>", "", 1}, {"A>BBBB B>a B>", "aa", 6},
		{"A>a A>B B>a", "a", 2}, {"A>ab A>aB B>b", "ab", 2}, {"A>B A>C A>D B>a C>a D>a", "a", 3},
		{"A>BCDE B>a B> C>a C> D>a D>", "a", 0}, {"A>BCD B>a B> C>a C> D>a D>", "a", 3},
		// The beginning is the first left side.
		{"B>Ab A>a", "ab", 1}, {"B>Ab A>a", "a", 0},
	} {
		if n, e := tables.Trees(grammar(x.g), x.s); n != x.want || e != api.OK {
			t.Error(x.g, x.s, n, e)
		}
	}
}

// P5.6, P5.7, P5.10
func TestTrees(t *testing.T) {
	for _, g := range few() {
		var words []string
		double := ""
		wantDouble := api.ErrNone
		for _, s := range stringsFor(g, 4) {
			want := refTrees(g, s, 100)
			if n, e := tables.Trees(g, s); n != want || e != api.OK {
				t.Error(text(g), s, n, e, want)
			}
			if want > 0 {
				words = append(words, s)
			}
			if want > 1 && wantDouble == api.ErrNone {
				double, wantDouble = s, api.OK
			}
		}
		for most := range 5 {
			shorter := slices.DeleteFunc(slices.Clone(words), func(s string) bool { return len(s) > most })
			if l, e := tables.Words(g, most); !slices.Equal(l, shorter) || e != api.OK {
				t.Error(text(g), most, l, e, shorter)
			}
		}
		if s, e := tables.Double(g); s != double || e != wantDouble {
			t.Error(text(g), s, e, double, wantDouble)
		}
	}
}

// longStrings returns some strings of 5 to 8 words.
func longStrings() []string {
	l := []string{"aaaaa", "aaaaaa", "aaaaaaa", "aaaaaaaa", "abababab", "aaaabbbb", "abbaabba", "bbbbbbbb"}
	d := &dice{77}
	for n := 5; n <= 8; n++ {
		for words := 2; words <= 4; words++ {
			s := ""
			for range n {
				s += string(wordLetters[d.from(0, words-1)])
			}
			l = append(l, s)
		}
	}
	return l
}

// P5.6
func TestTreesOfLongStrings(t *testing.T) {
	found := map[int]int{}
	for _, g := range few() {
		for _, s := range longStrings() {
			want := refTrees(g, s, 100)
			found[want]++
			if n, e := tables.Trees(g, s); n != want || e != api.OK {
				t.Error(text(g), s, n, e, want)
			}
		}
	}
	if found[1] < 100 || found[100] < 100 || len(found) < 20 {
		t.Error("too few kinds of numbers", found)
	}
}

// P2, P5.6: as many trees are found if all are listed, one by one.
func TestListsOfTrees(t *testing.T) {
	compared := map[int]int{}
	for _, g := range few() {
		for _, s := range slices.Concat(stringsFor(g, 4), longStrings()) {
			l, all := refList(g, s)
			if !all {
				continue
			}
			n, e := tables.Trees(g, s)
			compared[n]++
			if n != min(len(l), 100) || e != api.OK {
				t.Error(text(g), s, n, e, len(l))
			}
		}
	}
	if compared[1] < 500 || compared[2] < 50 || compared[5] == 0 || compared[100] == 0 {
		t.Error("too few lists", compared)
	}
}

// P5.6, Example 1
func TestWordsExamples(t *testing.T) {
	for _, x := range []struct {
		g    string
		most int
		want []string
	}{
		{balanced, 4, []string{"", "ab", "aabb"}}, {balanced, 3, []string{"", "ab"}}, {balanced, 2, []string{"", "ab"}},
		{balanced, 1, []string{""}}, {balanced, 0, []string{""}},
		{doubling, 4, []string{"a", "aa", "aaa", "aaaa"}}, {doubling, 0, nil}, {doubling, 1, []string{"a"}},
		{sums, 4, []string{"cd", "ccdd"}}, {sums, 3, []string{"cd"}},
		{lost, 4, []string{"bd"}}, {lost, 1, nil},
		{"A>A", 4, nil}, {"A>B", 4, nil}, {"A>A A>", 4, []string{""}},
		{"A>dcba", 4, []string{"dcba"}}, {"A>dcba", 3, nil}, {"A>aaaA A>", 4, []string{"", "aaa"}},
		// By length, then in order, whatever the order of the rules.
		{"A>d A>b A>ca A>ac A>a A>", 4, []string{"", "a", "b", "d", "ac", "ca"}},
		{"A>BB B>b B>a B>cc", 2, []string{"aa", "ab", "ba", "bb"}},
		{"A>BB B>b B>a B>cc", 4, []string{"aa", "ab", "ba", "bb", "acc", "bcc", "cca", "ccb", "cccc"}},
	} {
		if l, e := tables.Words(grammar(x.g), x.most); !slices.Equal(l, x.want) || e != api.OK {
			t.Error(x.g, x.most, l, e)
		}
	}
	for most := range 5 {
		if l, e := tables.Words(grammar("A>aA A>bA A>cA A>dA A>"), most); !slices.Equal(l, allStrings(most)) || e != api.OK {
			t.Error(most, len(l), e)
		}
	}
}

// P5.6: ErrArg unless most is from 0 to 4.
func TestWordsErrors(t *testing.T) {
	for _, g := range []string{balanced, doubling, "A>A"} {
		for _, most := range badNumbers(4) {
			if l, e := tables.Words(grammar(g), most); len(l) != 0 || e != api.ErrArg {
				t.Error(g, most, l, e)
			}
		}
	}
}

// P5.7, Example 2
func TestDoubleExamples(t *testing.T) {
	for _, x := range []struct {
		g, want string
		e       api.Errno
	}{
		{balanced, "", api.ErrNone}, {sums, "", api.ErrNone}, {lost, "", api.ErrNone}, {"A>A", "", api.ErrNone},
		{doubling, "aaa", api.OK},
		{"A>AA A>", "", api.OK}, {"A>B A> B>", "", api.OK}, // the empty string itself
		{"A>A A>b", "b", api.OK},
		{"A>BB B>a B>", "a", api.OK},
		// The first one, by length, then in order, whatever the order of the rules.
		{"A>B A>cd A>b A>ab B>cd B>ab", "ab", api.OK},
		{"A>B A>aaa A>d B>aaa B>d", "d", api.OK},
		{"A>B A>dd A>ad A>da B>dd B>da", "da", api.OK},
		// Up to 4 words.
		{"A>B A>dddd B>dddd", "dddd", api.OK},
		{"A>B A>dBdd B>dddd B>ddd", "", api.ErrNone},
		{"A>ddBd A>dBdd B>dd B>ddd", "", api.ErrNone},
		{"A>ddBd A>dBdd B>d", "dddd", api.OK},
	} {
		if s, e := tables.Double(grammar(x.g)); s != x.want || e != x.e {
			t.Error(x.g, s, e)
		}
	}
	if n, _ := tables.Trees(grammar("A>ddBd A>dBdd B>dd B>ddd"), strings.Repeat("d", 5)); n != 2 {
		t.Error(n)
	}
}
