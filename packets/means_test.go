package packets_test

import (
	"testing"

	"comfit/api"
	"comfit/packets"
)

func frac(num, den int) api.Frac { return api.Frac{Num: num, Den: den} }

// P4.1, Example 1
func TestMeanExamples(t *testing.T) {
	for _, x := range []struct {
		w    []int
		set  int
		want api.Frac
	}{
		{[]int{1, 1}, 3, frac(3, 1)},
		{[]int{1, 2}, 3, frac(7, 2)},
		{[]int{1, 2}, 0, frac(0, 1)},
		{[]int{1, 2}, 1, frac(3, 1)},
		{[]int{1, 2}, 2, frac(3, 2)},
		{[]int{7}, 0, frac(0, 1)},
		{[]int{7}, 1, frac(1, 1)},
		{[]int{9, 1}, 2, frac(10, 1)},
		{[]int{1, 1, 1}, 7, frac(11, 2)},
		{[]int{1, 1, 1}, 5, frac(9, 2)}, // 3 times the two kinds' 3/2
		{[]int{1, 2, 3}, 7, frac(73, 10)},
		{[]int{1, 1, 1, 1, 1, 1}, 63, frac(147, 10)},
		{[]int{9, 9, 9, 9, 9, 9}, 63, frac(147, 10)},
		{[]int{9, 9, 1, 9, 9, 9}, 4, frac(46, 1)},
	} {
		if f, e := packets.Mean(x.w, x.set); f != x.want || e != api.OK {
			t.Error(x, f, e)
		}
	}
}

// P4.1
func TestMean(t *testing.T) {
	for _, w := range someWeights() {
		c := newChain(w)
		for set := range 1 << len(w) {
			if f, e := packets.Mean(w, set); f != fracOf(c.mean(set, 0)) || e != api.OK {
				t.Error(w, set, f, e)
			}
		}
	}
}

// P4.1, P4: the numbers of all packets are exact, also the largest ones.
func TestMeanOfAll(t *testing.T) {
	for n := 1; n <= 6; n++ {
		for _, w := range risingWeights(n) {
			if f, e := packets.Mean(w, all(w)); f != fracOf(newChain(w).mean(all(w), 0)) || e != api.OK {
				t.Error(w, f, e)
			}
		}
	}
}

// P4.1, Example 1
func TestLastExamples(t *testing.T) {
	for _, x := range []struct {
		w         []int
		set, kind int
		want      api.Frac
	}{
		{[]int{1, 2}, 3, 0, frac(2, 3)},
		{[]int{1, 2}, 3, 1, frac(1, 3)},
		{[]int{1, 2}, 1, 0, frac(1, 1)},
		{[]int{1, 1, 1}, 7, 2, frac(1, 3)},
		{[]int{9, 1, 9}, 5, 0, frac(1, 2)},
		{[]int{1, 2, 3}, 7, 0, frac(7, 12)}, // 1 2 0: 2/6 3/4, 2 1 0: 3/6 2/3
		{[]int{1, 2, 3}, 6, 2, frac(2, 5)},
	} {
		if f, e := packets.Last(x.w, x.set, x.kind); f != x.want || e != api.OK {
			t.Error(x, f, e)
		}
	}
}

// P4.1
func TestLast(t *testing.T) {
	for _, w := range fewWeights() {
		for set := range 1 << len(w) {
			for _, kind := range kinds(set) {
				if f, e := packets.Last(w, set, kind); f != fracOf(refLast(w, set, kind)) || e != api.OK {
					t.Error(w, set, kind, f, e)
				}
			}
		}
	}
}

// P4.1, P4: also the largest numbers are exact.
func TestLastOfAll(t *testing.T) {
	for i, w := range append(risingWeights(6), largeWeights()...) {
		if i%10 != 0 && i < 3003 {
			continue
		}
		for kind := range w {
			if f, e := packets.Last(w, 63, kind); f != fracOf(refLast(w, 63, kind)) || e != api.OK {
				t.Error(w, kind, f, e)
			}
		}
	}
}

// P4.4, Example 2
func TestFirstExamples(t *testing.T) {
	for _, x := range []struct {
		w    []int
		a, b int
		want api.Frac
	}{
		{[]int{1, 1}, 1, 2, frac(1, 2)},
		{[]int{1, 1}, 3, 1, frac(0, 1)},
		{[]int{1, 1}, 1, 3, frac(1, 2)}, // kind 1 comes last
		{[]int{1, 1}, 3, 3, frac(0, 1)},
		{[]int{1, 2}, 1, 2, frac(1, 3)},
		{[]int{1, 2}, 2, 1, frac(2, 3)},
		{[]int{5}, 1, 1, frac(0, 1)},
		{[]int{1, 1, 1}, 3, 4, frac(1, 3)},
		{[]int{1, 1, 1}, 3, 6, frac(1, 3)},
		{[]int{1, 1, 1}, 1, 6, frac(2, 3)},
		{[]int{9, 9, 1, 1}, 4, 8, frac(1, 2)},
	} {
		if f, e := packets.First(x.w, x.a, x.b); f != x.want || e != api.OK {
			t.Error(x, f, e)
		}
	}
}

// P4.4
func TestFirst(t *testing.T) {
	for i, w := range fewWeights() {
		for a := 1; a <= all(w); a++ {
			for b := 1; b <= all(w); b++ {
				if len(w) > 4 && (a*63+b+i)%29 != 0 {
					continue
				}
				if f, e := packets.First(w, a, b); f != fracOf(refFirst(w, a, b)) || e != api.OK {
					t.Error(w, a, b, f, e)
				}
			}
		}
	}
}

// P4.4, P4: the largest numbers are exact.
func TestFirstOfLargeNumbers(t *testing.T) {
	for _, w := range largeWeights() {
		for a := 1; a < 63; a++ {
			if f, e := packets.First(w, a, 63&^a); f != fracOf(refFirst(w, a, 63&^a)) || e != api.OK {
				t.Error(w, a, f, e)
			}
		}
	}
}

// P4.6, Example 2
func TestPairsExamples(t *testing.T) {
	for _, x := range []struct {
		w     []int
		twice int
		want  api.Frac
	}{
		{[]int{1, 1}, 0, frac(3, 1)},
		{[]int{1, 1}, 1, frac(9, 2)},
		{[]int{1, 1}, 2, frac(9, 2)},
		{[]int{1, 1}, 3, frac(11, 2)},
		{[]int{7}, 0, frac(1, 1)},
		{[]int{7}, 1, frac(2, 1)},
		{[]int{1, 2}, 1, frac(37, 6)}, // 6 for kind 0 twice; then, with the chance 1/9, kind 1 is missing: 3/2 more
		{[]int{1, 2}, 2, frac(13, 3)}, // 3 for kind 1 twice; then, with the chance 4/9, kind 0 is missing: 3 more
		{[]int{5, 8, 9}, 7, frac(4770843621386471, 443497836952170)},
	} {
		if f, e := packets.Pairs(x.w, x.twice); f != x.want || e != api.OK {
			t.Error(x, f, e)
		}
	}
}

// P4.6, P4: the numbers of all packets are exact.
func TestPairs(t *testing.T) {
	for n := 1; n <= 3; n++ {
		for _, w := range allWeights(n) {
			c := newChain(w)
			for twice := range 1 << n {
				if f, e := packets.Pairs(w, twice); f != fracOf(c.mean(all(w)&^twice, twice)) || e != api.OK {
					t.Error(w, twice, f, e)
				}
			}
		}
	}
}

// P4.6: at most 3 kinds.
func TestPairsOfManyKinds(t *testing.T) {
	for n := 4; n <= 6; n++ {
		for _, twice := range []int{0, 1, 7, 1<<n - 1, 1 << n} {
			if f, e := packets.Pairs(largeWeights()[0][:n], twice); f != (api.Frac{}) || e != api.ErrArg {
				t.Error(n, twice, f, e)
			}
		}
	}
}
