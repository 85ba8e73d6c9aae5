package tables_test

import (
	"slices"
	"strings"
	"testing"

	"comfit/api"
	"comfit/tables"
)

// P5.5, Example 1
func TestReadExamples(t *testing.T) {
	for _, x := range []struct {
		g, s string
		want []int
		e    api.Errno
	}{
		{balanced, "aabb", []int{1, 0, 0}, api.OK}, {balanced, "", []int{1}, api.OK}, {balanced, "aaaabbbb", []int{1, 0, 0, 0, 0}, api.OK},
		{balanced, "aab", nil, api.ErrNone}, {balanced, "abb", nil, api.ErrNone}, {balanced, "b", nil, api.ErrNone}, {balanced, "ac", nil, api.ErrNone},
		{sums, "cd", []int{5, 3, 1}, api.OK}, {sums, "cdacd", []int{5, 3, 1, 5, 3, 0}, api.OK},
		{sums, "cdbcdacd", []int{5, 3, 5, 2, 1, 5, 3, 0}, api.OK}, {sums, "cdacdbcd", []int{5, 3, 1, 5, 3, 5, 2, 0}, api.OK},
		{sums, "ccdacdd", []int{5, 3, 1, 5, 3, 0, 4, 3, 1}, api.OK}, {sums, "", nil, api.ErrNone}, {sums, "cdcd", nil, api.ErrNone},
		// Inner rules before outer ones, the left one of several before the right ones, also where all end at one place.
		{empties, "", nil, api.ErrState},
		{"A>BC B>D B>a C> D>", "", []int{4, 1, 3, 0}, api.OK}, {"A>BC B>D B>a C> D>", "a", []int{2, 3, 0}, api.OK},
		{"A>BCD C> D> B>", "", []int{3, 1, 2, 0}, api.OK},
		{"A>aBCd B> C>bD D>E E>", "abd", []int{1, 4, 3, 2, 0}, api.OK},
		{"A>BB B>CaC C>", "aa", []int{2, 2, 1, 2, 2, 1, 0}, api.OK},
		{"A>Aa A>", "aaa", []int{1, 0, 0, 0}, api.OK}, {"A>aA A>", "aaa", []int{1, 0, 0, 0}, api.OK},
		{"C>AB A>a B>b", "ab", []int{1, 2, 0}, api.OK},
		{"A>dcba", "dcba", []int{0}, api.OK}, {"A>dcba", "dcb", nil, api.ErrNone}, {"A>dcba", "dcbaa", nil, api.ErrNone},
		{"A>", "", []int{0}, api.OK}, {"A>", "a", nil, api.ErrNone},
		// Tables that do not decide, whatever the string.
		{doubling, "a", nil, api.ErrState}, {doubling, "b", nil, api.ErrState}, {doubling, "", nil, api.ErrState},
		{places, "c", nil, api.ErrState}, {places, "a", nil, api.ErrState}, {"A>A", "", nil, api.ErrState},
		// Parts that make no string.
		{"A>B", "", nil, api.ErrNone}, {"A>aA", "aaaaaaaa", nil, api.ErrNone}, {"A>BC B>B A>a", "a", []int{2}, api.OK},
	} {
		if l, e := tables.Read(grammar(x.g), x.s); !slices.Equal(l, x.want) || e != x.e {
			t.Error(x.g, x.s, l, e)
		}
	}
}

// P5.5, P5.8: ErrNone also where the table, which decides, waits for a part that makes no string and puts empty parts before it again and again.
func TestReadEndsAtEmptyParts(t *testing.T) {
	for _, s := range []string{lost, "A>aC A>bBd C>BBC B>", "A>aC A>bBd C>BC B>E E>", "A>aC A>bBd C>BD D>C B>", "A>aBC A>bBd C>BC B>"} {
		g := grammar(s)
		if l, e := tables.Conflicts(g); len(l) > 0 || e != api.OK {
			t.Error(s, l, e)
		}
		for _, none := range []string{"", "a", "b", "d", "ad", "abd", "add", "adddd", "bdd", "adddddd", "c"} {
			if l, e := tables.Read(g, none); len(l) != 0 || e != api.ErrNone {
				t.Error(s, none, l, e)
			}
		}
		if l, e := tables.Read(g, "bd"); len(l) < 2 || e != api.OK {
			t.Error(s, l, e)
		}
	}
}

// replay replaces the last part by the rules, the last one first, and returns what comes of the beginning.
func replay(g []tables.Rule, rules []int) string {
	form := string(g[0].Left)
	for _, rule := range slices.Backward(rules) {
		at := strings.LastIndexAny(form, partLetters)
		if at < 0 || form[at] != g[rule].Left {
			return "no replacement of " + form
		}
		form = form[:at] + g[rule].Right + form[at+1:]
	}
	return form
}

// P5.5, P5.8
func TestRead(t *testing.T) {
	read, long := 0, 0
	for _, g := range slices.Concat(few(), deciding()) {
		l, wantError := tables.Conflicts(g)
		if len(l) > 0 {
			wantError = api.ErrState
		}
		for _, s := range slices.Concat(stringsFor(g, 4), longStrings()) {
			rules, e := tables.Read(g, s)
			n, _ := tables.Trees(g, s)
			want := wantError
			if want == api.OK && n == 0 {
				want = api.ErrNone
			}
			if e != want || e != api.OK && len(rules) > 0 {
				t.Error(text(g), s, n, rules, e, want)
			}
			if want != api.OK {
				continue
			}
			trees, all := refList(g, s)
			if len(trees) != 1 || !all {
				t.Fatal(text(g), s, trees, all)
			}
			ends, _ := refEnds(g, trees[0])
			if !slices.Equal(rules, ends) || replay(g, rules) != s {
				t.Error(text(g), s, rules, ends)
			}
			read++
			long += oneIf(len(s) > 4)
		}
	}
	if read < 500 || long < 50 {
		t.Error("too few strings were read:", read, long)
	}
}

// deciding returns grammars whose tables decide, and that make many strings.
func deciding() [][]tables.Rule {
	var l [][]tables.Rule
	for _, s := range []string{
		balanced, sums, "A>Aa A>", "A>aA A>bA A>", "A>Aa A>Ab A>c A>d", "A>aAbA A>c", "A>AaAb A>", "A>AaAb A>c", "A>bBc A>aAd B>AA B>",
		"A>BC B>bB B> C>cC C>", "A>BCD B>b B> C>c C> D>d D>", "A>BaC B>Bb B> C>cC C>", "A>aBb A>c B>AA B>", "A>AB A> B>aAb",
		"A>BA A> B>aAb", "A>aB B>bC C>cD C> D>dA D>", "A>aAa A>bAb A>c A>d", "A>BB B>aB B>b", "A>BBBB B>a B>b B>c B>d", "A>aa A>ab A>ba A>bb",
		"A>Ba B>Cb C>Dc D>Ed E>A E>", "A>aBcC B>bB B> C>AC C>d", "D>dD D>E E>Ec E>",
	} {
		l = append(l, grammar(s))
	}
	return l
}

// P5.8: if the table decides, no string has two trees.
func TestDecidingTablesHaveNoDouble(t *testing.T) {
	for _, g := range deciding() {
		if l, e := tables.Conflicts(g); len(l) > 0 || e != api.OK {
			t.Error(text(g), l, e)
		}
	}
	decide, double := 0, 0
	for _, g := range slices.Concat(some(), deciding()) {
		s, e := tables.Double(g)
		double += oneIf(e == api.OK)
		if l, ce := tables.Conflicts(g); ce == api.OK && len(l) == 0 {
			decide++
			if s != "" || e != api.ErrNone {
				t.Error(text(g), s, e)
			}
		}
	}
	if decide < 1000 || double < 500 {
		t.Error("too few grammars:", decide, double)
	}
}
