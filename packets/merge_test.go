package packets_test

import (
	"slices"
	"testing"

	"comfit/api"
	"comfit/packets"
)

// P4.7
func TestMergeExamples(t *testing.T) {
	for _, x := range []struct {
		w    []int
		a, b int
		want []int
		e    api.Errno
	}{
		{[]int{1, 2, 3}, 2, 0, []int{2, 4}, api.OK},
		{[]int{1, 2, 3}, 0, 2, []int{4, 2}, api.OK},
		{[]int{1, 2, 3}, 1, 0, []int{3, 3}, api.OK},
		{[]int{1, 2, 3}, 0, 1, []int{3, 3}, api.OK},
		{[]int{4, 5}, 0, 1, []int{9}, api.OK},
		{[]int{5, 5}, 0, 1, nil, api.ErrArg},
		{[]int{9, 1}, 0, 1, nil, api.ErrArg},
		{[]int{1, 1}, 0, 0, nil, api.ErrArg},
		{[]int{1, 1}, 1, 1, nil, api.ErrArg},
		{[]int{1}, 0, 0, nil, api.ErrArg},
		{[]int{1, 2, 3, 4, 5, 6}, 3, 4, []int{1, 2, 3, 9, 6}, api.OK},
		{[]int{1, 2, 3, 4, 5, 6}, 4, 3, []int{1, 2, 3, 9, 6}, api.OK},
		{[]int{1, 2, 3, 4, 5, 6}, 5, 0, []int{2, 3, 4, 5, 7}, api.OK},
		{[]int{1, 2, 3, 4, 5, 6}, 5, 3, nil, api.ErrArg},
	} {
		if l, e := packets.Merge(x.w, x.a, x.b); !slices.Equal(l, x.want) || e != x.e {
			t.Error(x, l, e)
		}
	}
}

// P4.7
func TestMerge(t *testing.T) {
	for _, w := range someWeights() {
		for a := range w {
			for b := range w {
				var want []int
				wantError := api.ErrArg
				if a != b && w[a]+w[b] <= 9 {
					wantError = api.OK
					for kind, weight := range w {
						if kind == a {
							want = append(want, weight+w[b])
						} else if kind != b {
							want = append(want, weight)
						}
					}
				}
				if l, e := packets.Merge(w, a, b); !slices.Equal(l, want) || e != wantError {
					t.Error(w, a, b, l, e)
				}
			}
		}
	}
}

// P4.12
func TestMeanOfMerged(t *testing.T) {
	for _, w := range someWeights() {
		for a := range w {
			for b := range w {
				merged, e := packets.Merge(w, a, b)
				if e != api.OK {
					continue
				}
				for _, set := range parts(all(w) &^ (1<<a | 1<<b)) {
					before := set & (1<<b - 1)
					want, _ := packets.Mean(w, set)
					if f, e := packets.Mean(merged, before|set>>1&^(1<<b-1)); f != want || e != api.OK {
						t.Error(w, a, b, set, f, e)
					}
				}
			}
		}
	}
}

// Rule 4: no argument is changed, and the result of Merge shares no memory with one.
func TestMemory(t *testing.T) {
	old := []int{1, 2, 3, 1, 2, 3}
	room := make([]int, 6, 20)
	copy(room, old)
	for range 2 {
		l, e := packets.Merge(room, 2, 1)
		if !slices.Equal(l, []int{1, 5, 1, 2, 3}) || e != api.OK {
			t.Error(l, e)
		}
		l = append(l, 77, 77)
		for i := range l {
			l[i] = 99
		}
	}
	w := room[:3]
	packets.Mean(w, 7)
	packets.Last(w, 7, 1)
	packets.Done(w, 7, 5)
	packets.Exact(w, 7, 5)
	packets.Kinds(w, 5)
	packets.First(w, 3, 4)
	packets.Enough(w, 7, frac(1, 2))
	packets.Pairs(w, 7)
	packets.Merge(w, 0, 1)
	if !slices.Equal(room, old) || slices.ContainsFunc(room[6:20], func(x int) bool { return x != 0 }) {
		t.Error(room[:20])
	}
}
