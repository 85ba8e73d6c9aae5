package tables_test

import (
	"reflect"
	"slices"
	"testing"

	"comfit/tables"
)

// results are those of all functions for a grammar and a string.
func results(g []tables.Rule, s string) []any {
	var l []any
	add := func(values ...any) { l = append(l, values...) }
	first, e := tables.First(g)
	add(first, e)
	next, e := tables.Next(g)
	add(next, e)
	empty, e := tables.Empty(g)
	add(empty, e)
	useful, e := tables.Useful(g)
	add(useful, e)
	trimmed, e := tables.Trim(g)
	add(trimmed, e)
	states, e := tables.States(g)
	add(states, e)
	to, e := tables.Go(g, 0, 'a')
	add(to, e)
	conflicts, e := tables.Conflicts(g)
	add(conflicts, e)
	rules, e := tables.Read(g, s)
	add(rules, e)
	trees, e := tables.Trees(g, s)
	add(trees, e)
	words, e := tables.Words(g, 3)
	add(words, e)
	double, e := tables.Double(g)
	return append(l, double, e)
}

// Rule 2: the same calls give the same results, whatever was called in between; rule 4: no argument is changed.
func TestSameCallsGiveSameResults(t *testing.T) {
	grammars := slices.Concat(chosen(), deciding(), drawn(50))
	var want [][]any
	for _, g := range grammars {
		old := slices.Clone(g)
		want = append(want, results(g, "aabb"))
		if !slices.Equal(g, old) {
			t.Error("changed:", text(old), text(g))
		}
	}
	for range 3 {
		for i, g := range slices.Backward(grammars) {
			if l := results(g, "aabb"); !reflect.DeepEqual(l, want[i]) {
				t.Error(text(g), l, want[i])
			}
		}
	}
}

// Rule 4: no result shares memory with an argument or with another slice of the result.
func TestMemory(t *testing.T) {
	g := grammar("A>aB A>AB B>b B>")
	h := grammar(balanced)
	want := results(g, "ab")
	states, _ := tables.States(g)
	for i := range states {
		states[i] = append(states[i], tables.Item{Rule: 77, Dot: 77})
		for j := range states[i] {
			states[i][j] = tables.Item{Rule: 99, Dot: 99}
		}
	}
	for _, items := range states {
		if slices.ContainsFunc(items, func(i tables.Item) bool { return i.Rule != 99 }) {
			t.Error(states)
		}
	}
	trimmed, _ := tables.Trim(g)
	for i := range trimmed {
		trimmed[i] = tables.Rule{Left: 'E', Right: "d"}
	}
	conflicts, _ := tables.Conflicts(g)
	for i := range conflicts {
		conflicts[i] = 99
	}
	rules, _ := tables.Read(h, "aabb")
	for i := range rules {
		rules[i] = 99
	}
	if len(trimmed) == 0 || len(conflicts) == 0 || len(rules) == 0 {
		t.Error(trimmed, conflicts, rules)
	}
	if text(g) != "A>aB A>AB B>b B>" || text(h) != balanced {
		t.Error("changed:", text(g), text(h))
	}
	if l := results(g, "ab"); !reflect.DeepEqual(l, want) {
		t.Error(l, want)
	}
	if l, _ := tables.Read(h, "aabb"); !slices.Equal(l, []int{1, 0, 0}) {
		t.Error(l)
	}
}
