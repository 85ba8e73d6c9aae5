package fixes_test

import (
	"reflect"
	"slices"
	"testing"

	"comfit/fixes"
)

func cloned(w fixes.Works) fixes.Works {
	return fixes.Works{Next: slices.Clone(w.Next), Marks: slices.Clone(w.Marks)}
}

// results are those of all functions for a works, two states and some formulas.
func results(w fixes.Works, s, u int) []any {
	var l []any
	add := func(values ...any) { l = append(l, values...) }
	for _, f := range []string{"mx|0<x", "gxmy|&0<x<y", "x", "&0mx[x"} {
		states, e := fixes.Holds(w, f)
		add(fixes.Is(f), states, e)
		not, e := fixes.Not(f)
		add(not, e)
		steps, e := fixes.Steps(w, f)
		add(steps, e)
		depth, ok, e := fixes.CheckTell(w, s, u, f)
		add(depth, ok, e)
	}
	classes, e := fixes.Classes(w)
	add(classes, e)
	ok, e := fixes.Alike(w, s, u)
	add(ok, e)
	told, e := fixes.Tell(w, s, u)
	add(told, e)
	depth, ok, e := fixes.CheckTell(w, s, u, told)
	add(depth, ok, e)
	quotient, e := fixes.Quotient(w)
	add(quotient, e)
	reach, e := fixes.Reach(w, 1<<s)
	add(reach, e)
	always, e := fixes.Always(w, 1<<s|1<<u)
	return append(l, always, e)
}

// Rule 2: the same calls give the same results, whatever was called in between; rule 4: no argument is changed.
func TestSameCallsGiveSameResults(t *testing.T) {
	all := slices.Concat(fewWorks(), []fixes.Works{{}, {Next: []int{9, 1}, Marks: []int{1, 99}}})
	var want [][]any
	for _, w := range all {
		old := cloned(w)
		want = append(want, results(w, 0, len(w.Next)/2))
		if !reflect.DeepEqual(w, old) {
			t.Error("changed:", old, w)
		}
	}
	for range 3 {
		for i, w := range slices.Backward(all) {
			if l := results(w, 0, len(w.Next)/2); !reflect.DeepEqual(l, want[i]) {
				t.Error(w, l, want[i])
			}
		}
	}
}

// Rule 4: no argument is changed behind its end; no result shares memory with an argument or another result.
func TestMemory(t *testing.T) {
	for _, w := range fewWorks() {
		more := fixes.Works{Next: append(slices.Clone(w.Next), 77)[:len(w.Next)], Marks: append(slices.Clone(w.Marks), 78)[:len(w.Marks)]}
		want := results(w, 0, 0)
		q, _ := fixes.Quotient(more)
		l, _ := fixes.Classes(more)
		for i := range l {
			l[i], q.Next[i], q.Marks[i] = 99, 99, 99
		}
		_, _, _ = append(l, 99), append(q.Next, 99), append(q.Marks, 99)
		n := len(w.Next)
		if !slices.Equal(more.Next[:n+1], append(slices.Clone(w.Next), 77)) || !slices.Equal(more.Marks[:n+1], append(slices.Clone(w.Marks), 78)) {
			t.Error("changed:", w, more)
		}
		if again := results(more, 0, 0); !reflect.DeepEqual(again, want) {
			t.Error(w, again, want)
		}
	}
}
