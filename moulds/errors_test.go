package moulds_test

import (
	"slices"
	"strings"
	"testing"

	"comfit/api"
	"comfit/moulds"
)

// P7.1, P7.3 to P7.7: ErrArg of a string that is no outline, also where the functions could say something about it.
func TestBadOutlines(t *testing.T) {
	for _, s := range badOutlines() {
		if l, e := moulds.Cells(s); len(l) > 0 || e != api.ErrArg {
			t.Error("Cells", s, l, e)
		}
		if n, e := moulds.Area(s); n != 0 || e != api.ErrArg {
			t.Error("Area", s, n, e)
		}
		if f, e := moulds.First(s); f != "" || e != api.ErrArg {
			t.Error("First", s, f, e)
		}
		if f, e := moulds.Factor(s); f != [4]int{} || e != api.ErrArg {
			t.Error("Factor", s, f, e)
		}
		if n, e := moulds.Factors(s); n != 0 || e != api.ErrArg {
			t.Error("Factors", s, n, e)
		}
		if v, e := moulds.Vectors(s); v != [2]point{} || e != api.ErrArg {
			t.Error("Vectors", s, v, e)
		}
		if ok, e := moulds.Tile(s); ok || e != api.ErrArg {
			t.Error("Tile", s, ok, e)
		}
		if m, e := moulds.Mirror(s); m != "" || e != api.ErrArg {
			t.Error("Mirror", s, m, e)
		}
		if q, e := moulds.Quarter(s); q != "" || e != api.ErrArg {
			t.Error("Quarter", s, q, e)
		}
	}
}

// P7.3: ErrArg unless it is at most 24 of the letters.
func TestBadWords(t *testing.T) {
	l := []string{strings.Repeat("r", 25), strings.Repeat("ruld", 7), strings.Repeat("u", 1<<16), strings.Repeat("d", 24) + "\x00"}
	for _, bad := range []string{"e", "a", "R", "U", "L", "D", "q", "s", "t", "v", "k", "m", "c", " ", "\x00", "\xff", "\u0440", "\n", "1"} {
		l = append(l, bad, "r"+bad, bad+"r", "r"+bad+"u", strings.Repeat("r", 23)+bad)
	}
	for _, s := range l {
		if back, e := moulds.Back(s); back != "" || e != api.ErrArg {
			t.Error(s, back, e)
		}
	}
}

// P7.2, P7.6: ErrArg unless cells are 1 to 30 different ones with numbers from -100 to 100, in order.
func TestBadCells(t *testing.T) {
	for _, cells := range badCells() {
		if s, e := moulds.Outline(cells); s != "" || e != api.ErrArg {
			t.Error("Outline", len(cells), s, e)
		}
		for _, v := range [][2]point{{{1, 0}, {0, 1}}, {{2, 0}, {0, 1}}, {{31, 0}, {0, 1}}, {{0, 0}, {0, 0}}, {{0, 101}, {-101, 0}}} {
			if ok, e := moulds.Fills(cells, v[0], v[1]); ok || e != api.ErrArg {
				t.Error("Fills", len(cells), v, ok, e)
			}
		}
	}
}

// P7.6: ErrArg unless the vectors have numbers from -100 to 100.
func TestBadVectors(t *testing.T) {
	for _, n := range outside(-100, 100) {
		for _, bad := range []point{{n, 0}, {0, n}, {n, n}, {1, n}, {n, 1}} {
			for _, good := range []point{{0, 0}, {1, 0}, {0, 1}, {100, -100}} {
				for _, cells := range [][]point{{{0, 0}}, {{0, 0}, {2, 2}}, row(point{0, 0}, 30)} {
					if ok, e := moulds.Fills(cells, bad, good); ok || e != api.ErrArg {
						t.Error(cells, bad, good, ok, e)
					}
					if ok, e := moulds.Fills(cells, good, bad); ok || e != api.ErrArg {
						t.Error(cells, good, bad, ok, e)
					}
				}
			}
		}
	}
}

// P7.1 to P7.7: the largest and smallest arguments are valid.
func TestLargestArguments(t *testing.T) {
	if s, e := moulds.Back(strings.Repeat("rl", 12)); s != strings.Repeat("rl", 12) || e != api.OK {
		t.Error("Back", s, e)
	}
	for _, s := range []string{"ruld", box(6, 6), box(1, 11), box(11, 1)} {
		if !moulds.Is(s) {
			t.Error("Is", s)
		}
	}
	for _, cells := range [][]point{
		{{-100, -100}}, {{-100, 100}}, {{100, -100}}, {{100, 100}}, row(point{-100, -100}, 30), row(point{71, 100}, 30),
		refCells(box(5, 6)), {{-100, -100}, {-100, 100}, {100, -100}, {100, 100}},
	} {
		if _, e := moulds.Outline(cells); e == api.ErrArg {
			t.Error("Outline", cells)
		}
		for _, v := range [][2]point{{{100, 100}, {-100, -100}}, {{100, -100}, {100, 99}}, {{0, -100}, {100, 0}}} {
			if ok, e := moulds.Fills(cells, v[0], v[1]); ok || e != api.OK {
				t.Error("Fills", cells, v, ok, e)
			}
		}
	}
}

// P7.2: more than 30 cells are not valid, also where an outline holds them.
func TestManyCells(t *testing.T) {
	for _, s := range chosenOutlines() {
		cells, e := moulds.Cells(s)
		if e != api.OK || len(cells) <= 30 {
			continue
		}
		if o, e := moulds.Outline(cells); o != "" || e != api.ErrArg {
			t.Error(s, o, e)
		}
		v, e := moulds.Vectors(s)
		if e != api.OK || !refFills(cells, v[0], v[1]) {
			t.Error(s, v, e)
		}
		if ok, e := moulds.Fills(cells, v[0], v[1]); ok || e != api.ErrArg {
			t.Error(s, ok, e)
		}
		if l := slices.Clone(cells[:30]); len(cells) == 36 {
			if o, e := moulds.Outline(l); o != box(5, 6)[16:]+box(5, 6)[:16] || e != api.OK {
				t.Error(o, e)
			}
		}
	}
}
