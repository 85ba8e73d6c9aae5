package packets_test

import (
	"testing"

	"comfit/api"
	"comfit/packets"
)

// P4.2, Example 1
func TestDoneExamples(t *testing.T) {
	for _, x := range []struct {
		w            []int
		set, packets int
		done, exact  api.Frac
	}{
		{[]int{1, 1}, 3, 2, frac(1, 2), frac(1, 2)},
		{[]int{1, 1}, 1, 2, frac(3, 4), frac(1, 4)},
		{[]int{1, 1}, 0, 2, frac(1, 1), frac(0, 1)},
		{[]int{1, 1}, 0, 0, frac(1, 1), frac(1, 1)},
		{[]int{1, 1}, 1, 0, frac(0, 1), frac(0, 1)},
		{[]int{1, 1}, 3, 1, frac(0, 1), frac(0, 1)},
		{[]int{1, 2}, 1, 2, frac(5, 9), frac(1, 9)},
		{[]int{1, 2}, 2, 2, frac(8, 9), frac(4, 9)},
		{[]int{1, 2}, 3, 3, frac(2, 3), frac(2, 3)},
		{[]int{5}, 1, 0, frac(0, 1), frac(0, 1)},
		{[]int{5}, 1, 1, frac(1, 1), frac(1, 1)},
		{[]int{1, 1, 1}, 3, 2, frac(2, 9), frac(2, 9)},
		{[]int{1, 1, 1}, 5, 3, frac(4, 9), frac(2, 9)}, // 6 rows of these two, 6 of all three
		{[]int{1, 1, 1, 1, 1, 1}, 63, 5, frac(0, 1), frac(0, 1)},
		{[]int{1, 1, 1, 1, 1, 1}, 63, 6, frac(5, 324), frac(5, 324)},
		{[]int{1, 1}, 3, 8, frac(127, 128), frac(127, 128)},
	} {
		if f, e := packets.Done(x.w, x.set, x.packets); f != x.done || e != api.OK {
			t.Error(x, f, e)
		}
		if f, e := packets.Exact(x.w, x.set, x.packets); f != x.exact || e != api.OK {
			t.Error(x, f, e)
		}
	}
}

// P4.2
func TestDoneAndExact(t *testing.T) {
	for _, w := range someWeights() {
		for number, rows := range refCame(w) {
			for set := range 1 << len(w) {
				if f, e := packets.Done(w, set, number); f != fracOf(chanceOf(w, having(rows, set), number)) || e != api.OK {
					t.Error(w, set, number, f, e)
				}
				if f, e := packets.Exact(w, set, number); f != fracOf(chanceOf(w, rows[set], number)) || e != api.OK {
					t.Error(w, set, number, f, e)
				}
			}
		}
	}
}

// cards calls do with each row of so many cards of n kinds.
func cards(n, number int, row []int, do func([]int)) {
	if number == 0 {
		do(row)
		return
	}
	for kind := range n {
		cards(n, number-1, append(row, kind), do)
	}
}

// P4.2, P4.3, P2: counted row by row.
func TestRows(t *testing.T) {
	for _, w := range [][]int{{1}, {1, 1}, {1, 2}, {9, 4}, {1, 1, 1}, {3, 1, 2}, {7, 9, 8}} {
		for number := range 9 {
			rows, different := make([]int, 1<<len(w)), 0
			cards(len(w), number, nil, func(row []int) {
				set, product := 0, 1
				for _, kind := range row {
					set |= 1 << kind
					product *= w[kind]
				}
				rows[set] += product
				different += product * len(kinds(set))
			})
			for set := range rows {
				if f, e := packets.Exact(w, set, number); f != fracOf(chanceOf(w, rows[set], number)) || e != api.OK {
					t.Error(w, set, number, f, e)
				}
				if f, e := packets.Done(w, set, number); f != fracOf(chanceOf(w, having(rows, set), number)) || e != api.OK {
					t.Error(w, set, number, f, e)
				}
			}
			if f, e := packets.Kinds(w, number); f != fracOf(chanceOf(w, different, number)) || e != api.OK {
				t.Error(w, number, f, e)
			}
		}
	}
}

// P4.3, Example 1
func TestKindsExamples(t *testing.T) {
	for _, x := range []struct {
		w       []int
		packets int
		want    api.Frac
	}{
		{[]int{1, 1}, 0, frac(0, 1)},
		{[]int{1, 1}, 1, frac(1, 1)},
		{[]int{1, 1}, 2, frac(3, 2)},
		{[]int{4}, 0, frac(0, 1)},
		{[]int{4}, 8, frac(1, 1)},
		{[]int{1, 2}, 2, frac(13, 9)},
		{[]int{1, 1, 1}, 3, frac(19, 9)},
	} {
		if f, e := packets.Kinds(x.w, x.packets); f != x.want || e != api.OK {
			t.Error(x, f, e)
		}
	}
}

// P4.3
func TestKinds(t *testing.T) {
	for _, w := range someWeights() {
		for number, rows := range refCame(w) {
			different := 0
			for set, n := range rows {
				different += n * len(kinds(set))
			}
			if f, e := packets.Kinds(w, number); f != fracOf(chanceOf(w, different, number)) || e != api.OK {
				t.Error(w, number, f, e)
			}
		}
	}
}

// P4.5, Example 1
func TestEnoughExamples(t *testing.T) {
	for _, x := range []struct {
		w      []int
		set    int
		chance api.Frac
		want   int
		e      api.Errno
	}{
		{[]int{1, 1}, 3, frac(7, 8), 4, api.OK}, // just that chance
		{[]int{1, 1}, 3, frac(6, 7), 4, api.OK},
		{[]int{1, 1}, 3, frac(8, 9), 5, api.OK},
		{[]int{1, 1}, 3, frac(0, 1), 0, api.OK},
		{[]int{1, 1}, 3, frac(1, 100), 2, api.OK},
		{[]int{1, 1}, 3, frac(63, 64), 7, api.OK},
		{[]int{1, 1}, 3, frac(99, 100), 8, api.OK},
		{[]int{1, 1}, 3, frac(1, 1), 0, api.ErrNone},
		{[]int{1, 1}, 0, frac(1, 1), 0, api.OK},
		{[]int{1, 1}, 0, frac(1, 2), 0, api.OK},
		{[]int{5}, 1, frac(1, 1), 1, api.OK},
		{[]int{5}, 1, frac(0, 1), 0, api.OK},
		{[]int{1, 2}, 1, frac(1, 3), 1, api.OK},
		{[]int{1, 2}, 1, frac(5, 9), 2, api.OK},
		{[]int{1, 9}, 1, frac(57, 100), 0, api.ErrNone}, // it is 0.56953279
		{[]int{1, 9}, 1, frac(56, 99), 8, api.OK},       // it is 0.565..
		{[]int{1, 1, 1, 1, 1, 1}, 63, frac(1, 65), 6, api.OK},
		{[]int{1, 1, 1, 1, 1, 1}, 63, frac(1, 64), 7, api.OK}, // it is above 5/324
	} {
		if n, e := packets.Enough(x.w, x.set, x.chance); n != x.want || e != x.e {
			t.Error(x, n, e)
		}
	}
}

// P4.5: also of the chances that Done has, where it may just be enough.
func TestEnough(t *testing.T) {
	good := goodChances()
	for i, w := range fewWeights() {
		came := refCame(w)
		for set := range 1 << len(w) {
			l := []api.Frac{frac(0, 1), frac(1, 100), frac(1, 2), frac(99, 100), frac(1, 1)}
			for j := (i + set) % 300; j < len(good); j += 300 {
				l = append(l, good[j])
			}
			for number, rows := range came {
				if f := fracOf(chanceOf(w, having(rows, set), number)); f.Den <= 100 {
					l = append(l, f)
				}
			}
			for _, chance := range l {
				want, wantError := refEnough(w, came, set, chance)
				if n, e := packets.Enough(w, set, chance); n != want || e != wantError {
					t.Error(w, set, chance, n, e)
				}
			}
		}
	}
}

// P4.5: every chance is an argument, and what is none is not.
func TestChances(t *testing.T) {
	w := []int{1, 1}
	came := refCame(w)
	for _, chance := range goodChances() {
		want, wantError := refEnough(w, came, 3, chance)
		if n, e := packets.Enough(w, 3, chance); n != want || e != wantError {
			t.Error(chance, n, e)
		}
	}
	for _, chance := range badChances() {
		for set := range 4 {
			if n, e := packets.Enough(w, set, chance); n != 0 || e != api.ErrArg {
				t.Error(chance, set, n, e)
			}
		}
	}
}
