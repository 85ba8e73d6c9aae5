package moulds_test

import (
	"slices"
	"testing"

	"comfit/api"
	"comfit/moulds"
)

// P7.2, Example 1
func TestOutlineExamples(t *testing.T) {
	ring := []point{{0, 0}, {0, 1}, {0, 2}, {1, 0}, {1, 2}, {2, 0}, {2, 1}, {2, 2}}
	for _, x := range []struct {
		cells []point
		want  string
		e     api.Errno
	}{
		{[]point{{0, 0}}, "drul", api.OK},
		{[]point{{-100, 100}}, "drul", api.OK},
		{[]point{{0, 0}, {1, 0}}, "drrull", api.OK},
		{[]point{{7, -9}, {7, -8}}, "ddruul", api.OK},
		{[]point{{0, 0}, {0, 1}, {1, 0}}, "ddrrulul", api.OK},
		{[]point{{0, 1}, {1, 0}, {1, 1}}, "drdruull", api.OK},
		{row(point{0, 0}, 11), "drrrrrrrrrrrulllllllllll", api.OK},
		// They do not hang together, meet at a corner only, or have holes.
		{[]point{{0, 0}, {2, 0}}, "", api.ErrState},
		{[]point{{0, 0}, {1, 1}}, "", api.ErrState},
		{[]point{{0, 1}, {1, 0}}, "", api.ErrState},
		{[]point{{-100, -100}, {100, 100}}, "", api.ErrState},
		{[]point{{0, 0}, {0, 1}, {1, 1}, {2, 2}}, "", api.ErrState},
		{ring, "", api.ErrState},
		{ring[1:], "", api.ErrState}, // the gap meets the outside at a corner
		{ring[:7], "", api.ErrState},
		{slices.Delete(slices.Clone(ring), 2, 3), "", api.ErrState},
		{slices.Delete(slices.Clone(ring), 1, 2), "dlldrrruuullldrr", api.OK},
		// Too long; what is not possible comes first.
		{row(point{0, 0}, 12), "", api.ErrSize},
		{row(point{0, 0}, 30), "", api.ErrSize},
		{slices.Concat(row(point{0, 0}, 12), []point{{13, 0}}), "", api.ErrState},
		{slices.Concat(row(point{0, 0}, 12), []point{{12, 1}}), "", api.ErrState},
		{slices.Concat(movedAll(ring, point{-3, 0}), row(point{0, 0}, 12)), "", api.ErrState},
	} {
		if s, e := moulds.Outline(x.cells); s != x.want || e != x.e {
			t.Error(x, s, e)
		}
	}
}

// checkOutline holds Outline against what is asked of it.
func checkOutline(t *testing.T, cells []point) api.Errno {
	t.Helper()
	want := api.OK
	if !joined(cells) || !joined(around(cells)) {
		want = api.ErrState
	} else if refSides(cells) > 24 {
		want = api.ErrSize
	}
	s, e := moulds.Outline(cells)
	if e != want || want == api.OK && !isOutlineOf(s, cells) || want != api.OK && s != "" {
		t.Error(cells, s, e, want)
	}
	return want
}

// P7.2: all sets of cells in a box.
func TestOutlinesOfSets(t *testing.T) {
	found := map[api.Errno]int{}
	for _, cells := range slices.Concat(setsIn(3, 4), setsIn(4, 3), setsIn(2, 6), setsIn(1, 8), setsIn(8, 1)) {
		found[checkOutline(t, cells)]++
	}
	if found[api.OK] < 1000 || found[api.ErrState] < 1000 {
		t.Error("too few of a kind", found)
	}
}

// P7.2
func TestOutlinesOfCells(t *testing.T) {
	d := &dice{6}
	found := map[api.Errno]int{}
	for range 100 {
		for number := 1; number <= 30; number++ {
			found[checkOutline(t, d.drawnCells(number))]++
		}
	}
	for _, s := range slices.Concat(outlines(), firstOutlines(14)) {
		cells := refCells(s)
		if len(cells) <= 30 {
			found[checkOutline(t, movedAll(cells, point{d.from(-80, 80), d.from(-80, 80)}))]++
		}
		// Without a cell, they may have a hole or two parts.
		at := d.from(0, len(cells)-1)
		if len(cells) > 1 && len(cells) <= 31 {
			found[checkOutline(t, slices.Delete(cells, at, at+1))]++
		}
	}
	if found[api.OK] < 1000 || found[api.ErrState] < 100 || found[api.ErrSize] < 100 {
		t.Error("too few of a kind", found)
	}
}
