package tags_test

import (
	"reflect"
	"slices"
	"testing"

	"comfit/tags"
)

// results are those of all functions for a machine.
func results(m []tags.Order, jars [2]int) []any {
	var l []any
	add := func(values ...any) { l = append(l, values...) }
	order, after, done, e := tags.Go(m, jars, 77)
	add(order, after, done, e)
	n, e := tags.Ends(m, jars)
	add(n, e)
	c, e := tags.Circle(m, jars)
	add(c, e)
	ok, e := tags.CheckCircle(m, jars, [2]int{2, 9})
	add(ok, e)
	ok, e = tags.Adds(m, 0)
	add(ok, e)
	fewer, e := tags.Fewer(m)
	return append(l, fewer, e)
}

// resultsOfCutter are those of all functions for a cutter.
func resultsOfCutter(c cutter) []any {
	s, e := tags.Cut(c.cut, c.strings, c.tape)
	l := []any{s, e}
	s, n, e := tags.Run(c.cut, c.strings, c.tape, 77)
	l = append(l, s, n, e)
	begin, length, e := tags.Again(c.cut, c.strings, c.tape)
	return append(l, begin, length, e)
}

// Rule 2: the same calls give the same results, whatever was called in between; rule 4: no argument is changed.
func TestSameCallsGiveSameResults(t *testing.T) {
	all := slices.Concat(chosenMachines(), drawnMachines(50))
	var want, wantOfCutters [][]any
	for _, m := range all {
		old := slices.Clone(m)
		want = append(want, results(m, [2]int{1, 2}))
		if !slices.Equal(m, old) {
			t.Error("changed:", old, m)
		}
	}
	for _, c := range chosenCutters() {
		wantOfCutters = append(wantOfCutters, resultsOfCutter(c))
	}
	for range 3 {
		for i, m := range slices.Backward(all) {
			if l := results(m, [2]int{1, 2}); !reflect.DeepEqual(l, want[i]) {
				t.Error(m, l, want[i])
			}
		}
		for i, c := range slices.Backward(chosenCutters()) {
			if l := resultsOfCutter(c); !reflect.DeepEqual(l, wantOfCutters[i]) {
				t.Error(c, l, wantOfCutters[i])
			}
		}
	}
}

// Rule 4: no result shares memory with an argument, also where nothing is left out.
func TestMemory(t *testing.T) {
	for _, m := range chosenMachines() {
		old := slices.Clone(m)
		want, _ := tags.Fewer(m)
		l, _ := tags.Fewer(m)
		for i := range l {
			l[i] = tags.Order{Do: 9}
		}
		_ = append(l, tags.Order{Do: 9})
		if !slices.Equal(m, old) {
			t.Error("changed:", old, m)
		}
		if again, _ := tags.Fewer(m); !slices.Equal(again, want) {
			t.Error(m, again, want)
		}
		for i := range m {
			m[i] = tags.Order{Do: 9}
		}
		if again, _ := tags.Fewer(old); !slices.Equal(again, want) {
			t.Error(old, again, want)
		}
	}
}
