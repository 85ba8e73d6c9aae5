package tables_test

import (
	"slices"
	"strings"
	"testing"

	"comfit/api"
	"comfit/tables"
)

// P5.10: a string is one of Words if and only if it has a tree; its first word is in First of the beginning.
func TestWordsHaveTrees(t *testing.T) {
	for _, g := range few() {
		words, e := tables.Words(g, 4)
		first, _ := tables.First(g)
		if e != api.OK {
			t.Error(text(g), e)
		}
		for _, s := range stringsFor(g, 4) {
			n, e := tables.Trees(g, s)
			if slices.Contains(words, s) != (n > 0) || e != api.OK {
				t.Error(text(g), s, n, e)
			}
		}
		for _, s := range words {
			if s != "" && first[g[0].Left-'A']>>(s[0]-'a')&1 == 0 {
				t.Error(text(g), s, first)
			}
		}
	}
}

// renamed returns the text with the letters of from exchanged for those of to.
func renamed(s, from, to string) string {
	return strings.Map(func(c rune) rune {
		if at := strings.IndexRune(from, c); at >= 0 {
			return rune(to[at])
		}
		return c
	}, s)
}

// orders returns all orders of letters.
func orders(letters string) []string {
	if letters == "" {
		return []string{""}
	}
	var l []string
	for i := range letters {
		for _, rest := range orders(letters[:i] + letters[i+1:]) {
			l = append(l, letters[i:i+1]+rest)
		}
	}
	return l
}

// samePlain holds what renaming must not change of two grammars against each other.
func samePlain(t *testing.T, g, h []tables.Rule, rename func(string) string) {
	t.Helper()
	l, e := tables.States(g)
	k, renamedError := tables.States(h)
	if len(l) != len(k) || e != renamedError {
		t.Error(text(g), text(h), len(l), len(k), e, renamedError)
	}
	words, _ := tables.Words(g, 3)
	for _, s := range slices.Concat(words, []string{"", "a", "b", "c", "d", "abc", "aabb", "ddcc", "aaaaa", "abcdabcd"}) {
		n, _ := tables.Trees(g, s)
		if m, e := tables.Trees(h, rename(s)); m != n || e != api.OK {
			t.Error(text(g), text(h), s, n, m, e)
		}
	}
}

// P5.12
func TestRenamingWords(t *testing.T) {
	for i, g := range few() {
		for j, order := range orders(wordLetters) {
			if (i+j)%5 == 0 {
				rename := func(s string) string { return renamed(s, wordLetters, order) }
				samePlain(t, g, grammar(rename(text(g))), rename)
			}
		}
	}
}

// P5.12
func TestRenamingParts(t *testing.T) {
	for i, g := range few() {
		others := strings.ReplaceAll(partLetters, string(g[0].Left), "")
		for j, order := range orders(others) {
			if (i+j)%5 == 0 {
				samePlain(t, g, grammar(renamed(text(g), others, order)), func(s string) string { return s })
			}
		}
	}
}

// P5.12: so are the numbers of trees of the orders of the rules, but for which part is the beginning.
func TestOrderOfRules(t *testing.T) {
	for _, g := range few() {
		h := slices.Clone(g[1:])
		slices.Reverse(h)
		samePlain(t, g, append(slices.Clone(g[:1]), h...), func(s string) string { return s })
	}
}
