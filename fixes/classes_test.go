package fixes_test

import (
	"math/bits"
	"reflect"
	"slices"
	"testing"

	"comfit/api"
	"comfit/fixes"
)

// P8.4, Example 2
func TestClassesExamples(t *testing.T) {
	for _, x := range []struct {
		w    fixes.Works
		want []int
	}{
		{line, []int{1, 2, 4}},
		{fixes.Works{Next: []int{0}, Marks: []int{5}}, []int{1}},
		{fixes.Works{Next: []int{2, 1, 4}, Marks: []int{1, 1, 1}}, []int{7}},
		{fixes.Works{Next: []int{2, 1, 0}, Marks: []int{1, 1, 1}}, []int{3, 4}},
		{fixes.Works{Next: []int{7, 7, 7}, Marks: []int{1, 0, 1}}, []int{5, 2}},
		{fixes.Works{Next: []int{0, 0, 0, 0}, Marks: []int{3, 1, 1, 3}}, []int{9, 6}},
		{fixes.Works{Next: []int{2, 4, 8, 16, 32, 1}, Marks: []int{1, 0, 1, 0, 1, 0}}, []int{21, 42}},
		{fixes.Works{Next: []int{2, 4, 8, 16, 32, 1}, Marks: []int{1, 0, 0, 1, 0, 0}}, []int{9, 18, 36}},
		{fixes.Works{Next: []int{2, 4, 8, 16, 32, 0}, Marks: []int{0, 0, 0, 0, 0, 0}}, []int{1, 2, 4, 8, 16, 32}},
		// 0 may go to an end or not, 1 can't: and who may go to an end by which state does not matter.
		{fixes.Works{Next: []int{12, 8, 0, 8}, Marks: []int{0, 0, 0, 0}}, []int{1, 10, 4}},
		{fixes.Works{Next: []int{12, 44, 16, 32, 16, 32}, Marks: []int{0, 0, 1, 1, 1, 1}}, []int{3, 60}},
	} {
		if l, e := fixes.Classes(x.w); !slices.Equal(l, x.want) || e != api.OK {
			t.Error(x, l, e)
		}
	}
}

// P8.4, P8.6
func TestClasses(t *testing.T) {
	found := map[int]int{}
	for _, w := range works() {
		want := refClasses(w)
		if l, e := fixes.Classes(w); !slices.Equal(l, want) || e != api.OK {
			t.Error(w, l, e, want)
		}
		p := refPartition(w)
		for s := range p {
			for u := range p {
				if ok, e := fixes.Alike(w, s, u); ok != (p[s] == p[u]) || e != api.OK {
					t.Error(w, s, u, ok, e)
				}
			}
		}
		q := refQuotient(w)
		if v, e := fixes.Quotient(w); !reflect.DeepEqual(v, q) || e != api.OK {
			t.Error(w, v, e, q)
		}
		found[10*len(p)+len(want)]++
	}
	for _, kind := range []int{11, 21, 22, 31, 32, 33, 41, 42, 43, 44, 51, 52, 53, 54, 55, 61, 62, 63, 64, 65, 66} {
		if found[kind] < 10 {
			t.Error("too few of a kind", kind, found)
		}
	}
}

// P8.6
func TestQuotientExamples(t *testing.T) {
	for _, x := range []struct{ w, want fixes.Works }{
		{line, line},
		{fixes.Works{Next: []int{0}, Marks: []int{5}}, fixes.Works{Next: []int{0}, Marks: []int{5}}},
		{fixes.Works{Next: []int{2, 1, 4}, Marks: []int{1, 1, 1}}, fixes.Works{Next: []int{1}, Marks: []int{1}}},
		{fixes.Works{Next: []int{2, 1, 0}, Marks: []int{4, 4, 4}}, fixes.Works{Next: []int{1, 0}, Marks: []int{4, 4}}},
		{fixes.Works{Next: []int{2, 4, 8, 16, 32, 1}, Marks: []int{8, 0, 1, 8, 0, 1}}, fixes.Works{Next: []int{2, 4, 1}, Marks: []int{8, 0, 1}}},
		{fixes.Works{Next: []int{12, 44, 16, 32, 16, 32}, Marks: []int{0, 0, 1, 1, 1, 1}}, fixes.Works{Next: []int{2, 2}, Marks: []int{0, 1}}},
	} {
		if w, e := fixes.Quotient(x.w); !reflect.DeepEqual(w, x.want) || e != api.OK {
			t.Error(x, w, e)
		}
	}
}

// P8.7
func TestReachExamples(t *testing.T) {
	fork := fixes.Works{Next: []int{6, 8, 16, 8, 0}, Marks: []int{0, 0, 0, 0, 0}} // 0 to 1 or 2; 1 to 3, which stays; 2 to 4, which ends
	for _, x := range []struct {
		w                  fixes.Works
		set, reach, always int
	}{
		{line, 0, 0, 0}, {line, 1, 1, 0}, {line, 2, 3, 0}, {line, 3, 3, 0}, {line, 4, 7, 4}, {line, 5, 7, 4}, {line, 6, 7, 6}, {line, 7, 7, 7},
		{fork, 0, 0, 0}, {fork, 16, 21, 0}, {fork, 8, 11, 8}, {fork, 31, 31, 11}, {fork, 9, 11, 8}, {fork, 10, 11, 10}, {fork, 11, 11, 11}, {fork, 20, 21, 0},
		{fixes.Works{Next: []int{0}, Marks: []int{1}}, 1, 1, 0}, {fixes.Works{Next: []int{1}, Marks: []int{0}}, 1, 1, 1},
		{fixes.Works{Next: []int{2, 1}, Marks: []int{0, 0}}, 1, 3, 0}, {fixes.Works{Next: []int{2, 1}, Marks: []int{0, 0}}, 3, 3, 3},
	} {
		if s, e := fixes.Reach(x.w, x.set); s != x.reach || e != api.OK {
			t.Error(x, s, e)
		}
		if s, e := fixes.Always(x.w, x.set); s != x.always || e != api.OK {
			t.Error(x, s, e)
		}
	}
}

// P8.7: all sets of states.
func TestReachAndAlways(t *testing.T) {
	more, less := 0, 0
	for i, w := range works() {
		if i%4 > 0 && len(w.Next) > 3 { // to save time
			continue
		}
		for set := range everything(w) + 1 {
			reach, always := refReach(w, set), refAlways(w, set)
			if s, e := fixes.Reach(w, set); s != reach || e != api.OK {
				t.Error(w, set, s, e, reach)
			}
			if s, e := fixes.Always(w, set); s != always || e != api.OK {
				t.Error(w, set, s, e, always)
			}
			if bits.OnesCount(uint(reach&^set)) > 2 {
				more++
			}
			if always > 0 && bits.OnesCount(uint(set&^always)) > 1 {
				less++
			}
		}
	}
	if more < 1000 || less < 1000 {
		t.Error("too few of a kind", more, less)
	}
}
