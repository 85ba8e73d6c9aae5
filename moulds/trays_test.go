package moulds_test

import (
	"slices"
	"testing"

	"comfit/api"
	"comfit/moulds"
)

// P7.6
func TestFillsExamples(t *testing.T) {
	two, three := []point{{0, 0}, {1, 0}}, []point{{0, 0}, {0, 1}, {1, 0}}
	for _, x := range []struct {
		cells []point
		v, w  point
		want  bool
	}{
		{[]point{{5, -7}}, point{1, 0}, point{0, 1}, true},
		{[]point{{5, -7}}, point{0, 1}, point{1, 0}, true},
		{[]point{{5, -7}}, point{100, 99}, point{99, 98}, true},
		{[]point{{5, -7}}, point{1, 0}, point{0, 2}, false},
		{[]point{{5, -7}}, point{0, 0}, point{0, 0}, false},
		{two, point{2, 0}, point{0, 1}, true},
		{two, point{2, 0}, point{1, 1}, true},
		{two, point{2, 0}, point{-1, -1}, true},
		{two, point{1, 1}, point{1, -1}, true},
		{two, point{1, 0}, point{0, 2}, false}, // some cells are covered twice, and some not at all
		{two, point{1, 0}, point{0, 1}, false}, // all are covered twice
		{two, point{4, 0}, point{0, 1}, false}, // none is covered twice
		{two, point{2, 0}, point{0, 0}, false},
		{two, point{2, 0}, point{4, 0}, false},
		{two, point{2, 2}, point{-2, -2}, false},
		{three, point{1, 1}, point{-1, 2}, true},
		{three, point{1, 1}, point{2, -1}, true},
		{three, point{3, 0}, point{0, 1}, false},
		{three, point{3, 0}, point{2, 1}, false},
		{three, point{3, 0}, point{1, 1}, true},
		// The cells need not hang together.
		{[]point{{0, 0}, {3, 0}}, point{2, 0}, point{0, 1}, true},
		{[]point{{0, 0}, {4, 0}}, point{2, 0}, point{0, 1}, false},
		{[]point{{-100, -100}, {99, 100}}, point{2, 0}, point{0, 1}, true},
		{[]point{{-100, -100}, {100, 100}}, point{2, 0}, point{0, 1}, false},
		{[]point{{0, 0}, {2, 0}, {4, 0}}, point{3, 0}, point{100, 1}, true},
		{row(point{0, 0}, 30), point{30, 0}, point{17, 1}, true},
		{row(point{0, 0}, 30), point{15, 0}, point{17, 2}, false},
		{row(point{71, 100}, 30), point{100, 1}, point{-30, 0}, true},
		{row(point{71, 100}, 30), point{100, 1}, point{-70, 0}, false},
	} {
		if ok, e := moulds.Fills(x.cells, x.v, x.w); ok != x.want || e != api.OK {
			t.Error(x, ok, e)
		}
	}
}

// vectorsTo returns all vectors with numbers from -most to most.
func vectorsTo(most int) []point {
	var l []point
	for x := -most; x <= most; x++ {
		for y := -most; y <= most; y++ {
			l = append(l, point{x, y})
		}
	}
	return l
}

// P7.6: by definition, with short vectors.
func TestFillsByDefinition(t *testing.T) {
	found := map[bool]int{}
	for _, cells := range [][]point{
		{{0, 0}}, {{-1, 1}, {0, 1}}, {{0, 0}, {0, 1}}, {{0, 0}, {0, 2}}, {{0, 0}, {1, 1}}, {{0, 0}, {1, 2}},
		{{0, 0}, {0, 1}, {1, 0}}, {{0, 0}, {0, 1}, {0, 2}}, {{0, 0}, {1, 0}, {3, 0}}, {{0, 0}, {0, 1}, {1, 1}, {1, 2}}, {{0, 0}, {0, 1}, {1, 0}, {1, 1}}, {{0, 0}, {1, 0}, {1, 1}, {2, 0}},
	} {
		for _, v := range vectorsTo(2) {
			for _, w := range vectorsTo(2) {
				// 8 is the largest determinant: so many cells are all that there are. None is more than 10 steps away.
				want := refCovers(cells, v, w, 8, 40)
				if ok, e := moulds.Fills(cells, v, w); ok != want || e != api.OK {
					t.Error(cells, v, w, ok, e)
				}
				if refFills(cells, v, w) != want {
					t.Error("the references differ:", cells, v, w, want)
				}
				found[want]++
			}
		}
	}
	if found[true] < 500 || found[false] < 500 {
		t.Error("too few of a kind", found)
	}
}

// P7.6: sets of cells, and all vectors with as large a determinant, and others.
func TestFills(t *testing.T) {
	found := map[bool]int{}
	check := func(cells []point, v, w point) {
		want := refFills(cells, v, w)
		if ok, e := moulds.Fills(cells, v, w); ok != want || e != api.OK {
			t.Error(cells, v, w, ok, e)
		}
		found[want]++
	}
	d := &dice{5}
	vectors := vectorsTo(4)
	for _, cells := range setsIn(3, 3) {
		for i := range 120 {
			v, w := vectors[d.from(0, len(vectors)-1)], vectors[d.from(0, len(vectors)-1)]
			if size := refDeterminant(v, w); i < 5 || size == len(cells) || size == -len(cells) {
				check(cells, v, w)
			}
		}
	}
	for _, s := range outlines() {
		cells := refCells(s)
		if len(cells) > 30 {
			continue
		}
		for range 3 {
			a := d.from(1, len(cells))
			v, w := point{a, 0}, point{d.from(-50, 50), len(cells) / a}
			check(movedAll(cells, point{d.from(-70, 70), d.from(-70, 70)}), v, w)
			check(cells, moved(v, w), w)
		}
	}
	if found[true] < 500 || found[false] < 500 {
		t.Error("too few of a kind", found)
	}
}

// P7.6
func TestTileExamples(t *testing.T) {
	for s, want := range map[string]bool{
		"ruld": true, "rrulld": true, "rrululdd": true, "rurululdldrd": true, "rrurulldld": true, box(6, 6): true, box(11, 1): true,
		"rrruuldluldd": false, "ddllldrrrruuuullllddrurr": false, "ddrrrrruuldluldlul": false,
	} {
		if ok, e := moulds.Tile(s); ok != want || e != api.OK {
			t.Error(s, ok, e)
		}
	}
}

// P7.6, P7.9: whether there are vectors, for outlines of all kinds.
func TestTile(t *testing.T) {
	found := map[bool]int{}
	for _, s := range slices.Concat(chosenOutlines(), allOutlines(8), firstOutlines(10), firstOutlines(12), firstOutlines(14), drawnOutlines(20)) {
		want := refTile(s)
		if ok, e := moulds.Tile(s); ok != want || e != api.OK {
			t.Error(s, ok, e)
		}
		found[want]++
	}
	if found[true] < 300 || found[false] < 300 {
		t.Error("too few of a kind", found)
	}
}

// P7.6: by definition, for outlines that fill no tray and some that do.
func TestTileByDefinition(t *testing.T) {
	vectors := vectorsTo(24)
	for _, s := range []string{"rrruuldluldd", "ruld", "rrulld", "rurululdldrd"} {
		cells := refCells(s)
		want := false
		for _, v := range vectors {
			for _, w := range vectors {
				size := refDeterminant(v, w)
				want = want || (size == len(cells) || size == -len(cells)) && refFills(cells, v, w)
			}
		}
		if ok, e := moulds.Tile(s); ok != want || e != api.OK {
			t.Error(s, ok, e, want)
		}
	}
}
