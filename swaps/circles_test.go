package swaps_test

import (
	"slices"
	"testing"

	"comfit/api"
	"comfit/swaps"
)

// small is the net of Example 2.
var small = []int{2, 5, 3}

// P9.7, Example 2
func TestCirclesExamples(t *testing.T) {
	for _, x := range []struct {
		net     []int
		circles [][]int
		most    int
	}{
		{[]int{0}, nil, 0},
		{[]int{0, 0}, nil, 0},
		{[]int{2, 0}, nil, 0},
		{[]int{2, 1}, [][]int{{0, 1}}, 2},
		{small, [][]int{{0, 1}, {0, 1, 2}, {1, 2}}, 3},
		{[]int{2, 4, 1}, [][]int{{0, 1, 2}}, 3},
		{[]int{4, 1, 2}, [][]int{{0, 2, 1}}, 3},
		{[]int{6, 5, 3}, [][]int{{0, 1}, {0, 1, 2}, {0, 2}, {0, 2, 1}, {1, 2}}, 3},
		{[]int{2, 4, 8, 1}, nil, 0},
		{[]int{2, 5, 2, 0}, [][]int{{0, 1}, {1, 2}}, 2},
		{[]int{2, 5, 10, 4}, [][]int{{0, 1}, {1, 2}, {2, 3}}, 4}, // 1 and 2 between the others
		{[]int{2, 4, 9, 16, 8, 0}, [][]int{{0, 1, 2}, {3, 4}}, 5},
		{[]int{2, 13, 1, 2, 0, 0}, [][]int{{0, 1}, {0, 1, 2}, {1, 3}}, 3},
		{[]int{34, 4, 9, 16, 32, 9}, [][]int{{0, 1, 2}, {0, 5}, {3, 4, 5}}, 6},
	} {
		if l, e := swaps.Circles(x.net); !slices.EqualFunc(l, x.circles, slices.Equal) || e != api.OK {
			t.Error(x.net, l, e)
		}
		l, e := swaps.Swaps(x.net)
		if e != api.OK {
			t.Error(x.net, l, e)
		}
		if n, ok := refAreSwaps(x.net, l); n != x.most || !ok {
			t.Error(x.net, l, n, ok)
		}
	}
}

// P9.7
func TestCircles(t *testing.T) {
	for _, net := range nets() {
		want := refCircles(net)
		if l, e := swaps.Circles(net); !slices.EqualFunc(l, want, slices.Equal) || e != api.OK {
			t.Error(net, l, e, want)
		}
	}
	for n := 1; n <= 6; n++ { // pairs, and two circles for each three collectors
		want := n*(n-1)/2 + n*(n-1)*(n-2)/3
		if l, e := swaps.Circles(fullNet(n)); len(l) != want || e != api.OK {
			t.Error(n, l, e)
		}
	}
}

// P9.7, P9.12
func TestSwaps(t *testing.T) {
	var found [7]int
	for _, net := range nets() {
		want := refMost(net)
		l, e := swaps.Swaps(net)
		if n, ok := refAreSwaps(net, l); n != want || !ok || e != api.OK {
			t.Error(net, l, n, ok, e, want)
		}
		if n, ok, e := swaps.CheckSwaps(net, l); n != want || !ok || e != api.OK {
			t.Error(net, l, n, ok, e, want)
		}
		found[want]++
	}
	for _, n := range []int{0, 2, 3, 4, 5, 6} {
		if found[n] < 100 {
			t.Error("too few nets where so many are helped", n, found)
		}
	}
}

// P9.7, Example 2
func TestCheckSwapsExamples(t *testing.T) {
	long := []int{2, 5, 11, 4, 32, 16}
	for _, x := range []struct {
		net  []int
		l    [][]int
		want int
		ok   bool
	}{
		{[]int{0}, nil, 0, true},
		{small, nil, 0, true},
		{small, [][]int{}, 0, true},
		{small, [][]int{{0, 1}}, 2, true},
		{small, [][]int{{0, 1, 2}}, 3, true},
		{small, [][]int{{1, 2}}, 2, true},
		{small, [][]int{{0, 1}, {1, 2}}, 0, false},
		{small, [][]int{{0, 1}, {0, 1}}, 0, false},
		{small, [][]int{{0, 2}}, 0, false},
		{small, [][]int{{1, 0}}, 0, false},
		{small, [][]int{{1, 2, 0}}, 0, false},
		{small, [][]int{{0, 2, 1}}, 0, false},
		{small, [][]int{nil}, 0, false},
		{small, [][]int{{}}, 0, false},
		{small, [][]int{{0}}, 0, false},
		{small, [][]int{{0, 0}}, 0, false},
		{small, [][]int{{0, 1}, {}}, 0, false},
		{small, [][]int{nil, {0, 1}}, 0, false},
		{small, [][]int{{0, 1, 0}}, 0, false},
		{small, [][]int{{0, 1, 0, 1}}, 0, false},
		{[]int{2, 4, 8, 1}, [][]int{{0, 1, 2, 3}}, 0, false},
		{long, [][]int{{0, 1}, {2, 3}, {4, 5}}, 6, true},
		{long, [][]int{{0, 1}, {4, 5}, {2, 3}}, 0, false},
		{long, [][]int{{2, 3}, {0, 1}, {4, 5}}, 0, false},
		{long, [][]int{{0, 1, 2}, {4, 5}}, 5, true},
		{long, [][]int{{0, 1, 2}, {2, 3}, {4, 5}}, 0, false},
		{long, [][]int{{4, 5}}, 2, true},
		{long, [][]int{{4, 5}, {4, 5}}, 0, false},
		{long, [][]int{{0, 1}, {2, 3}, {4, 5}, {4, 5}}, 0, false},
		{long, make([][]int, 1<<16), 0, false},
		{long, [][]int{make([]int, 1<<16)}, 0, false},
		{long, slices.Repeat([][]int{{0, 1}}, 1<<16), 0, false},
	} {
		if n, ok, e := swaps.CheckSwaps(x.net, x.l); n != x.want || ok != x.ok || e != api.OK {
			t.Error(x.net, x.l, n, ok, e)
		}
	}
	for _, bad := range outside(0, 2) {
		for _, circle := range [][]int{{bad}, {bad, 1}, {1, bad}, {bad, 1, 2}, {0, bad, 2}, {0, 1, bad}, {bad, bad}, {bad, bad, bad}} {
			for _, l := range [][][]int{{circle}, {{0, 1}, circle}, {circle, {1, 2}}} {
				if n, ok, e := swaps.CheckSwaps(small, l); n != 0 || ok || e != api.OK {
					t.Error(l, n, ok, e)
				}
			}
		}
	}
}

// checkLists holds CheckSwaps against the reference, and returns how many lists are swaps.
func checkLists(t *testing.T, net []int, lists ...[][]int) int {
	t.Helper()
	swapping := 0
	for _, l := range lists {
		want, right := refAreSwaps(net, l)
		if n, ok, e := swaps.CheckSwaps(net, l); n != want || ok != right || e != api.OK {
			t.Error(net, l, n, ok, e, want, right)
		}
		if right && len(l) > 0 {
			swapping++
		}
	}
	return swapping
}

// P9.7: all lists of one and two slices of up to 4 numbers, for few collectors.
func TestCheckSwapsOfSlices(t *testing.T) {
	var slicesOfAll [][]int
	for last := [][]int{{}}; len(last[0]) <= 4; {
		slicesOfAll = append(slicesOfAll, last...)
		var longer [][]int
		for _, l := range last {
			for i := range 3 {
				longer = append(longer, append(slices.Clone(l), i))
			}
		}
		last = longer
	}
	for at, net := range slices.Concat(allNets(1), allNets(2), allNets(3)) {
		for _, first := range slicesOfAll {
			checkLists(t, net, [][]int{first})
			for _, second := range slicesOfAll {
				if at%8 == 4 {
					checkLists(t, net, [][]int{first, second})
				}
			}
		}
	}
}

// P9.7: lists of circles of each net, some of which are in two or turned.
func TestCheckSwapsOfCircles(t *testing.T) {
	d := &dice{12}
	swapping, others := 0, 0
	for _, net := range nets() {
		circles := refCircles(net)
		if len(circles) == 0 {
			continue
		}
		for range 20 {
			var l [][]int
			for range d.from(1, 3) {
				l = append(l, circles[d.from(0, len(circles)-1)])
			}
			turned := slices.Clone(l)
			at := d.from(0, len(l)-1)
			turned[at] = slices.Concat(l[at][1:], l[at][:1])
			sorted := slices.Clone(l)
			slices.SortFunc(sorted, slices.Compare)
			n := checkLists(t, net, l, sorted, turned)
			swapping += n
			others += 3 - n
		}
	}
	if swapping < 10000 || others < 10000 {
		t.Error("too few lists of a kind", swapping, others)
	}
}
