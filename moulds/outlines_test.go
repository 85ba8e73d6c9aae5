package moulds_test

import (
	"slices"
	"testing"

	"comfit/api"
	"comfit/moulds"
)

// P7.1
func TestIsExamples(t *testing.T) {
	for _, s := range slices.Concat(chosenOutlines(), drawnOutlines(60)) {
		if !moulds.Is(s) || !refIs(s) {
			t.Error("not taken:", s)
		}
	}
	for _, s := range badOutlines() {
		if moulds.Is(s) || refIs(s) {
			t.Error("taken:", s)
		}
	}
}

// P7.1: all words of at most 8 letters, and all ways of 10 and 12 letters that close, to the left and to the right.
func TestIs(t *testing.T) {
	found := map[bool]int{}
	for length := range 9 {
		for _, s := range words(length) {
			want := refIs(s)
			if ok := moulds.Is(s); ok != want {
				t.Error(s, ok)
			}
			found[want]++
		}
	}
	for length := 10; length <= 12; length += 2 {
		for _, s := range outlinesOf(length, "") {
			if !moulds.Is(s) || moulds.Is(refBack(s)) {
				t.Error(s, moulds.Is(s), moulds.Is(refBack(s)))
			}
			found[true]++
		}
	}
	if found[true] != 1840 || found[false] < 1000 {
		t.Error("too few of a kind", found)
	}
}

// P7.1: outlines with one letter changed, put in, left out, or exchanged with the next one.
func TestIsNearOutlines(t *testing.T) {
	d := &dice{2}
	found := map[bool]int{}
	for _, s := range outlines() {
		for range 6 {
			at := d.from(0, len(s)-2)
			letter := d.text("ruld", 1)
			for _, near := range []string{
				s[:at] + letter + s[at+1:], s[:at] + letter + s[at:], s[:at] + s[at+1:], s[:at] + s[at+1:at+2] + s[at:at+1] + s[at+2:],
				s[:at] + letter + s[at:] + refBack(letter), s[:at] + letter + refBack(letter) + s[at:],
			} {
				want := refIs(near)
				if ok := moulds.Is(near); ok != want {
					t.Error(near, ok)
				}
				found[want]++
			}
		}
	}
	if found[true] < 1000 || found[false] < 1000 {
		t.Error("too few of a kind", found)
	}
}

// P7.1
func TestCellsExamples(t *testing.T) {
	for s, want := range map[string][]point{
		"ruld": {{0, 0}}, "uldr": {{-1, 0}}, "ldru": {{-1, -1}}, "drul": {{0, -1}},
		"rrulld": {{0, 0}, {1, 0}}, "ddruul": {{0, -2}, {0, -1}},
		"rrululdd":     {{0, 0}, {0, 1}, {1, 0}},
		"rurululdldrd": {{-1, 1}, {0, 0}, {0, 1}, {0, 2}, {1, 1}},
		"rrruuldluldd": {{0, 0}, {0, 1}, {1, 0}, {2, 0}, {2, 1}},
	} {
		if l, e := moulds.Cells(s); !slices.Equal(l, want) || e != api.OK {
			t.Error(s, l, e)
		}
		if n, e := moulds.Area(s); n != len(want) || e != api.OK {
			t.Error(s, n, e)
		}
	}
	if n, e := moulds.Area(box(6, 6)); n != 36 || e != api.OK {
		t.Error(n, e)
	}
}

// P7.1
func TestCells(t *testing.T) {
	most := 0
	for _, s := range slices.Concat(outlines(), outlinesOf(12, ""), firstOutlines(14)) {
		want := refCells(s)
		if l, e := moulds.Cells(s); !slices.Equal(l, want) || e != api.OK {
			t.Error(s, l, e, want)
		}
		if n, e := moulds.Area(s); n != len(want) || e != api.OK {
			t.Error(s, n, e, len(want))
		}
		most = max(most, len(want))
	}
	if most != 36 {
		t.Error("too few cells", most)
	}
}

// P7.3, P7.7, Example 2
func TestTurnExamples(t *testing.T) {
	for _, x := range []struct{ s, first, mirror, quarter string }{
		{"ruld", "drul", "drul", "drul"},
		{"rrulld", "drrull", "drrull", "ddruul"},
		{"ddruul", "ddruul", "ddruul", "drrull"},
		{"rrululdd", "ddrrulul", "dldrruul", "dldrruul"},
		{"rrurulldld", "dldrrurull", "drdrrulull", "ddrdruulul"},
	} {
		if s, e := moulds.First(x.s); s != x.first || e != api.OK {
			t.Error("First", x.s, s, e)
		}
		if s, e := moulds.Mirror(x.s); s != x.mirror || e != api.OK {
			t.Error("Mirror", x.s, s, e)
		}
		if s, e := moulds.Quarter(x.s); s != x.quarter || e != api.OK {
			t.Error("Quarter", x.s, s, e)
		}
	}
}

// P7.3, P7.7: the cells of the outline mirrored or turned are those that are mirrored or turned.
func TestTurns(t *testing.T) {
	for _, s := range slices.Concat(outlines(), outlinesOf(12, ""), firstOutlines(14)) {
		first, e := moulds.First(s)
		if first != refFirst(s) || e != api.OK {
			t.Error("First", s, first, e)
		}
		mirrored, e := moulds.Mirror(s)
		if !isOutlineOf(mirrored, changed(refCells(s), func(x, y int) point { return point{-x - 1, y} })) || e != api.OK {
			t.Error("Mirror", s, mirrored, e)
		}
		turned, e := moulds.Quarter(s)
		if !isOutlineOf(turned, changed(refCells(s), func(x, y int) point { return point{-y - 1, x} })) || e != api.OK {
			t.Error("Quarter", s, turned, e)
		}
	}
}

// changed returns cells changed one by one, in order.
func changed(cells []point, change func(x, y int) point) []point {
	var l []point
	for _, cell := range cells {
		l = append(l, change(cell[0], cell[1]))
	}
	slices.SortFunc(l, comparePoints)
	return l
}

// isOutlineOf reports whether s is an outline, the first of its turns, and holds just these cells, moved.
func isOutlineOf(s string, cells []point) bool {
	if !refIs(s) || s != refFirst(s) {
		return false
	}
	inside := refCells(s)
	return slices.Equal(movedAll(inside, point{cells[0][0] - inside[0][0], cells[0][1] - inside[0][1]}), cells)
}

// P7.3, Example 2
func TestBackExamples(t *testing.T) {
	for s, want := range map[string]string{
		"": "", "r": "l", "u": "d", "l": "r", "d": "u", "rru": "dll", "ru": "dl", "ruld": "urdl", "rl": "rl", "uuuddl": "ruuddd",
		"rrrrrrrrrrrruuuuuuuuuuuu": "ddddddddddddllllllllllll",
	} {
		if back, e := moulds.Back(s); back != want || e != api.OK {
			t.Error(s, back, e)
		}
	}
}

// P7.3: all words of at most 7 letters, and longer ones.
func TestBacks(t *testing.T) {
	d := &dice{4}
	var all []string
	for length := range 8 {
		all = append(all, words(length)...)
	}
	for length := range 25 {
		for range 20 {
			all = append(all, d.text("ruld", length))
		}
	}
	for _, s := range all {
		if back, e := moulds.Back(s); back != refBack(s) || e != api.OK {
			t.Error(s, back, e)
		}
	}
}
