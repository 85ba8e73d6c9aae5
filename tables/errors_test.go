package tables_test

import (
	"strings"
	"testing"

	"comfit/api"
	"comfit/tables"
)

// call is a function of the package with its arguments but for the grammar and a string. It reports the error, and whether all other results are zero.
type call struct {
	name string
	do   func(g []tables.Rule, s string) (api.Errno, bool)
}

func calls() []call {
	return []call{
		{"First", func(g []tables.Rule, _ string) (api.Errno, bool) {
			l, e := tables.First(g)
			return e, l == [5]int{}
		}},
		{"Next", func(g []tables.Rule, _ string) (api.Errno, bool) {
			l, e := tables.Next(g)
			return e, l == [5]int{}
		}},
		{"Empty", func(g []tables.Rule, _ string) (api.Errno, bool) {
			set, e := tables.Empty(g)
			return e, set == 0
		}},
		{"Useful", func(g []tables.Rule, _ string) (api.Errno, bool) {
			set, e := tables.Useful(g)
			return e, set == 0
		}},
		{"Trim", func(g []tables.Rule, _ string) (api.Errno, bool) {
			l, e := tables.Trim(g)
			return e, len(l) == 0
		}},
		{"States", func(g []tables.Rule, _ string) (api.Errno, bool) {
			l, e := tables.States(g)
			return e, len(l) == 0
		}},
		{"Go", func(g []tables.Rule, _ string) (api.Errno, bool) {
			k, e := tables.Go(g, 0, 'A')
			return e, k == 0
		}},
		{"Conflicts", func(g []tables.Rule, _ string) (api.Errno, bool) {
			l, e := tables.Conflicts(g)
			return e, len(l) == 0
		}},
		{"Words", func(g []tables.Rule, _ string) (api.Errno, bool) {
			l, e := tables.Words(g, 4)
			return e, len(l) == 0
		}},
		{"Double", func(g []tables.Rule, _ string) (api.Errno, bool) {
			s, e := tables.Double(g)
			return e, s == ""
		}},
	}
}

func callsWithString() []call {
	return []call{
		{"Read", func(g []tables.Rule, s string) (api.Errno, bool) {
			l, e := tables.Read(g, s)
			return e, len(l) == 0
		}},
		{"Trees", func(g []tables.Rule, s string) (api.Errno, bool) {
			n, e := tables.Trees(g, s)
			return e, n == 0
		}},
	}
}

// P5.1 to P5.7: ErrArg if the grammar is not valid.
func TestBadGrammars(t *testing.T) {
	for _, g := range badGrammars() {
		for _, c := range append(calls(), callsWithString()...) {
			for _, s := range []string{"", "a", "x"} {
				if e, zero := c.do(g, s); e != api.ErrArg || !zero {
					t.Error(c.name, text(g), s, e, zero)
				}
			}
		}
	}
}

// P5.5, P5.6: ErrArg if the string is not valid, also where it would be ErrSize or ErrState.
func TestBadStrings(t *testing.T) {
	for _, g := range []string{balanced, doubling, overfull, "A>A", "A>aA A>"} {
		for _, s := range badStrings() {
			for _, c := range callsWithString() {
				if e, zero := c.do(grammar(g), s); e != api.ErrArg || !zero {
					t.Error(c.name, g, s, e, zero)
				}
			}
		}
	}
}

// P5.1 to P5.7: the largest grammars and strings, and all letters, are valid.
func TestLargestArguments(t *testing.T) {
	for _, text := range []string{"A>a B>b C>c D>d E>a A>A B>B C>C", "E>ABCD A>EEEE B>abcd C>dddd D>dcba A> B> C>", "A>AAAA", "E>", full} {
		for _, c := range append(calls(), callsWithString()...) {
			for _, s := range []string{"", "abcdabcd", strings.Repeat("d", 8)} {
				if e, _ := c.do(grammar(text), s); e == api.ErrArg || e == api.ErrSize || e == api.ErrNil {
					t.Error(c.name, text, s, e)
				}
			}
		}
	}
}

// P5.3, P5.6: ErrArg of other arguments does not hide behind a grammar that is not valid.
func TestBadGrammarsWithBadNumbers(t *testing.T) {
	for _, g := range badGrammars() {
		for _, n := range badNumbers(4) {
			if k, e := tables.Go(g, n, 'x'); k != 0 || e != api.ErrArg {
				t.Error(text(g), n, k, e)
			}
			if l, e := tables.Words(g, n); len(l) != 0 || e != api.ErrArg {
				t.Error(text(g), n, l, e)
			}
		}
	}
}
