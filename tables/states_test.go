package tables_test

import (
	"reflect"
	"slices"
	"testing"

	"comfit/api"
	"comfit/tables"
)

// same reports whether two lists of states are the same.
func same(l, k [][]tables.Item) bool {
	return slices.EqualFunc(l, k, slices.Equal[[]tables.Item])
}

// P5.3, Example 1
func TestStatesExamples(t *testing.T) {
	for _, x := range []struct {
		g      string
		states [][]tables.Item
	}{
		{balanced, [][]tables.Item{
			{{0, 0}, {1, 0}, {2, 0}},
			{{2, 1}},
			{{0, 0}, {0, 1}, {1, 0}},
			{{0, 2}},
			{{0, 3}},
		}},
		{doubling, [][]tables.Item{
			{{0, 0}, {1, 0}, {2, 0}},
			{{0, 0}, {0, 1}, {1, 0}, {2, 1}},
			{{1, 1}},
			{{0, 0}, {0, 1}, {0, 2}, {1, 0}},
		}},
		{"A>", [][]tables.Item{{{0, 0}, {1, 0}}, {{1, 1}}}},
		{"A>aaaa", [][]tables.Item{{{0, 0}, {1, 0}}, {{1, 1}}, {{0, 1}}, {{0, 2}}, {{0, 3}}, {{0, 4}}}},
		// Parts before words, each in its order, whatever the order of the rules; from state to state.
		{"C>dA C>bB C>cB A>a B>Cc", [][]tables.Item{
			{{0, 0}, {1, 0}, {2, 0}, {5, 0}},
			{{5, 1}},                                 // over C
			{{1, 1}, {4, 0}, {0, 0}, {1, 0}, {2, 0}}, // over b
			{{2, 1}, {4, 0}, {0, 0}, {1, 0}, {2, 0}}, // over c
			{{0, 1}, {3, 0}},                         // over d
			{{1, 2}},                                 // from 2 over B
			{{4, 1}},                                 // over C
			{{2, 2}},                                 // from 3 over B
			{{0, 2}},                                 // from 4 over A
			{{3, 1}},                                 // over a
			{{4, 2}},                                 // from 6 over c
		}},
		// Parts without rules are gone over, too.
		{"A>aB", [][]tables.Item{{{0, 0}, {1, 0}}, {{1, 1}}, {{0, 1}}, {{0, 2}}}},
		{"A>E B>b", [][]tables.Item{{{0, 0}, {2, 0}}, {{2, 1}}, {{0, 1}}}},
		// Several dots in one rule.
		{"A>AAA", [][]tables.Item{
			{{0, 0}, {1, 0}},
			{{0, 0}, {0, 1}, {1, 1}},
			{{0, 0}, {0, 1}, {0, 2}},
			{{0, 0}, {0, 1}, {0, 2}, {0, 3}},
		}},
	} {
		for _, s := range x.states {
			slices.SortFunc(s, func(i, j tables.Item) int { return (i.Rule-j.Rule)*10 + i.Dot - j.Dot })
		}
		if l, e := tables.States(grammar(x.g)); !reflect.DeepEqual(l, x.states) || e != api.OK {
			t.Error(x.g, l, e)
		}
	}
}

// P5.3
func TestStates(t *testing.T) {
	large := 0
	for _, g := range some() {
		want := refStates(g)
		l, e := tables.States(g)
		if len(want.states) > 64 {
			large++
			if len(l) != 0 || e != api.ErrSize {
				t.Error(text(g), len(want.states), len(l), e)
			}
			continue
		}
		if !same(l, want.states) || e != api.OK {
			t.Error(text(g), l, e, want.states)
		}
	}
	if large == 0 {
		t.Error("no grammar with more than 64 states")
	}
}

// P5.3
func TestGo(t *testing.T) {
	for _, g := range few() {
		want := refStates(g)
		if len(want.states) > 64 {
			continue
		}
		for at := range want.states {
			for _, letter := range []byte(bothLetters) {
				wantError := api.OK
				to, ok := want.goes[at][letter]
				if !ok {
					wantError = api.ErrNone
				}
				if k, e := tables.Go(g, at, letter); k != to || e != wantError {
					t.Error(text(g), at, string(letter), k, e)
				}
			}
		}
	}
}

// P5.3
func TestUpTo64States(t *testing.T) {
	for text, want := range map[string]int{
		"D>BdAd B>dddD D>bdCD D>ddBd C>BaaC D>ADEC C>ddCD C>AAbB": 61,
		"B>dcac B>ccEA C>ccBc E>DDdD E>ccCE C>CCcE D>CcDD B>bbad": 63,
		full: 64,
	} {
		g := grammar(text)
		if l, e := tables.States(g); len(l) != want || len(refStates(g).states) != want || e != api.OK {
			t.Error(text, len(l), e)
		}
		if _, e := tables.Conflicts(g); e != api.OK {
			t.Error(text, e)
		}
		if _, e := tables.Go(g, want-1, 'A'); e != api.OK && e != api.ErrNone {
			t.Error(text, e)
		}
		if _, e := tables.Go(g, want, 'A'); e != api.ErrArg {
			t.Error(text, e)
		}
		if _, e := tables.Read(g, "a"); e == api.ErrSize {
			t.Error(text, e)
		}
	}
}

// P5.3, P5.4, P5.5: ErrSize if there are more than 64 states; the other functions have no states.
func TestMoreThan64States(t *testing.T) {
	for text, want := range map[string]int{
		overfull: 65,
		"D>BDAA B>dddD D>bdCD D>ddBC C>BADE D>ADcD C>ddCE C>AAbB": 66,
		"A>aaaC E>aDcA E>DBAb E>cDBB A>cBCb C>aBda D>aaaA B>EBaE": 109,
	} {
		g := grammar(text)
		if n := len(refStates(g).states); n != want {
			t.Error(text, n)
		}
		if l, e := tables.States(g); len(l) != 0 || e != api.ErrSize {
			t.Error(text, len(l), e)
		}
		if l, e := tables.Conflicts(g); len(l) != 0 || e != api.ErrSize {
			t.Error(text, l, e)
		}
		if k, e := tables.Go(g, 0, 'A'); k != 0 || e != api.ErrSize {
			t.Error(text, k, e)
		}
		for _, s := range []string{"", "a", "abcd"} {
			if l, e := tables.Read(g, s); len(l) != 0 || e != api.ErrSize {
				t.Error(text, s, l, e)
			}
			if _, e := tables.Trees(g, s); e != api.OK {
				t.Error(text, s, e)
			}
		}
		if _, e := tables.Words(g, 4); e != api.OK {
			t.Error(text, e)
		}
		if _, e := tables.Double(g); e == api.ErrSize {
			t.Error(text, e)
		}
	}
}

// P5.3
func TestGoExamples(t *testing.T) {
	for _, x := range []struct {
		state  int
		letter byte
		want   int
		e      api.Errno
	}{
		{0, 'A', 1, api.OK}, {0, 'a', 2, api.OK}, {0, 'b', 0, api.ErrNone}, {0, 'B', 0, api.ErrNone}, {0, 'E', 0, api.ErrNone}, {0, 'd', 0, api.ErrNone},
		{1, 'A', 0, api.ErrNone}, {1, 'a', 0, api.ErrNone},
		{2, 'A', 3, api.OK}, {2, 'a', 2, api.OK}, {2, 'b', 0, api.ErrNone},
		{3, 'b', 4, api.OK}, {3, 'A', 0, api.ErrNone}, {4, 'b', 0, api.ErrNone}, {4, 'c', 0, api.ErrNone},
		{5, 'a', 0, api.ErrArg}, {-1, 'a', 0, api.ErrArg}, {0, 'e', 0, api.ErrArg}, {5, 'e', 0, api.ErrArg},
	} {
		if k, e := tables.Go(grammar(balanced), x.state, x.letter); k != x.want || e != x.e {
			t.Error(x, k, e)
		}
	}
}

// P5.3: ErrArg unless it is a letter, before ErrSize.
func TestLettersOfGo(t *testing.T) {
	for letter := range 256 {
		isLetter := slices.Contains([]byte(bothLetters), byte(letter))
		k, e := tables.Go(grammar(balanced), 1, byte(letter)) // no letter leads on from there
		if want := []api.Errno{api.ErrArg, api.ErrNone}[oneIf(isLetter)]; k != 0 || e != want {
			t.Error(letter, k, e)
		}
		k, e = tables.Go(grammar(overfull), 1, byte(letter))
		if want := []api.Errno{api.ErrArg, api.ErrSize}[oneIf(isLetter)]; k != 0 || e != want {
			t.Error(letter, k, e)
		}
	}
}

// P5.3: ErrArg unless there is the state, behind ErrSize and before ErrNone.
func TestStatesOfGo(t *testing.T) {
	for _, g := range []string{"A>", balanced, doubling, sums, full} {
		l, _ := tables.States(grammar(g))
		for _, state := range badNumbers(len(l) - 1) {
			for _, letter := range []byte(bothLetters) {
				if k, e := tables.Go(grammar(g), state, letter); k != 0 || e != api.ErrArg {
					t.Error(g, state, string(letter), k, e)
				}
			}
		}
	}
	for _, state := range badNumbers(63) {
		if k, e := tables.Go(grammar(overfull), state, 'A'); k != 0 || e != api.ErrSize {
			t.Error(state, k, e)
		}
	}
}

// P5.4, Examples 1 and 2
func TestConflictsExamples(t *testing.T) {
	for _, x := range []struct {
		g    string
		want []int
	}{
		{balanced, nil},
		{doubling, []int{3}},
		{sums, nil},
		{lost, nil},
		{"A>", nil},
		{"A>BC A>a B>b", nil},
		// The end of one rule and of another one, both with the end behind it, or with a word.
		{"A>B A>C B>a C>a", []int{4}},
		{"A>Ba A>Ca B>b C>b", []int{4}},
		{"A>Ba A>Cb B>b C>b", nil},
		{"A>Ba A>C B>b C>b", nil},
		{"A>B A>C B> C>", []int{0}},
		// The end of a rule and of the whole.
		{"A>A A>a", []int{1}},
		{"A>B B>A B>b", []int{1}},
		{"A>Aa A>b", nil}, // behind the whole is the end alone
		{"A>Ab A>aB B>A", []int{4}},
		// The end of a rule and a word of its Next.
		{"A>aA A>", nil},
		{"A>aAa A>", []int{0, 2}},
		{"A>aAa A>b", nil},
		{"A>aAb A>a", nil},
		{"A>aAa A>a", []int{2}},
		{"A>Ba A>b B>b", []int{}},
		{"A>Ba A>ba B>b", []int{3}},
		// What is next is not told apart by places.
		{places, []int{2}},
		// Parts behind which there is nothing end nowhere.
		{"A>BC B>B A>a", nil},
		{"A>BC B> B>b C>Cc", nil},
		{"A>BC B> B>b C>C", []int{4}},
		{"A>aBC A>aD B>b D>b", nil},
		// States that no string reaches count.
		{"A>a A>bC C>Cd C>CdC", []int{6}},
		{"A>a A>EB B>bB B>bBB", []int{6}},
		{"A>a B>b B>bb B>BB", nil}, // but not rules that no state has
	} {
		if l, e := tables.Conflicts(grammar(x.g)); !slices.Equal(l, x.want) || e != api.OK {
			t.Error(x.g, l, e, x.want)
		}
	}
}

// P5.4
func TestConflicts(t *testing.T) {
	decides := 0
	for _, g := range some() {
		want := refStates(g)
		if len(want.states) > 64 {
			continue
		}
		l, e := tables.Conflicts(g)
		if !slices.Equal(l, want.conflicts()) || e != api.OK {
			t.Error(text(g), l, e, want.conflicts())
		}
		decides += oneIf(len(l) == 0)
	}
	if decides < 1000 {
		t.Error("too few grammars whose tables decide:", decides)
	}
}

// P5.11
func TestStatesAreReached(t *testing.T) {
	for _, g := range few() {
		l, e := tables.States(g)
		if e != api.OK {
			continue
		}
		from := make([]int, len(l)) // the first state from which one goes there
		for at := range l {
			from[at] = len(l)
		}
		for at := range l {
			for _, letter := range []byte(bothLetters) {
				if to, e := tables.Go(g, at, letter); e == api.OK {
					from[to] = min(from[to], at)
				}
			}
		}
		for at, items := range l {
			before := map[byte]bool{}
			for _, i := range items {
				right := string(g[0].Left)
				if i.Rule < len(g) {
					right = g[i.Rule].Right
				}
				if i.Dot > 0 {
					before[right[i.Dot-1]] = true
				}
			}
			if at > 0 && (from[at] >= at || len(before) != 1) || at == 0 && len(before) > 0 {
				t.Error(text(g), at, from[at], before)
			}
		}
	}
}
