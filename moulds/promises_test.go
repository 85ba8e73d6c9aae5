package moulds_test

import (
	"slices"
	"testing"

	"comfit/api"
	"comfit/moulds"
)

// all returns outlines of all kinds, with all of at most 12 letters, and all first ones of 14.
func all() []string { return slices.Concat(outlines(), outlinesOf(12, ""), firstOutlines(14)) }

// P7.8
func TestOutlinesOfTheirCells(t *testing.T) {
	for _, s := range all() {
		cells, e := moulds.Cells(s)
		first, e1 := moulds.First(s)
		if e != api.OK || e1 != api.OK {
			t.Error(s, e, e1)
		}
		if len(cells) > 30 {
			continue
		}
		if o, e := moulds.Outline(cells); o != first || e != api.OK {
			t.Error(s, o, e, first)
		}
	}
}

// P7.8
func TestTurnsOfOutlines(t *testing.T) {
	for _, s := range all() {
		cells, _ := moulds.Cells(s)
		area, _ := moulds.Area(s)
		first, _ := moulds.First(s)
		path := refPath(s)
		for put, turn := range refTurns(s) {
			if n, e := moulds.Area(turn); n != area || e != api.OK {
				t.Error(s, turn, n, e)
			}
			// Seen from where the turn begins.
			if l, e := moulds.Cells(turn); !slices.Equal(movedAll(l, path[put]), cells) || e != api.OK {
				t.Error(s, turn, l, e)
			}
			if f, e := moulds.First(turn); f != first || e != api.OK {
				t.Error(s, turn, f, e)
			}
		}
	}
}

// P7.8
func TestAreas(t *testing.T) {
	for _, s := range all() {
		n, e := moulds.Area(s)
		if len(s)%2 > 0 || n < 1 || 16*n > len(s)*len(s) || e != api.OK {
			t.Error(s, n, e)
		}
	}
}

// P7.9
func TestVectorsFill(t *testing.T) {
	found := map[bool]int{}
	for _, s := range all() {
		_, factorError := moulds.Factor(s)
		ok, e := moulds.Tile(s)
		if ok != (factorError == api.OK) || e != api.OK {
			t.Error(s, ok, e, factorError)
		}
		found[ok]++
		v, e := moulds.Vectors(s)
		if e != factorError {
			t.Error(s, e, factorError)
		}
		if !ok {
			continue
		}
		cells, _ := moulds.Cells(s)
		area, _ := moulds.Area(s)
		if size := refDeterminant(v[0], v[1]); size != area && size != -area {
			t.Error(s, v, area)
		}
		if len(cells) > 30 {
			continue
		}
		if ok, e := moulds.Fills(cells, v[0], v[1]); !ok || e != api.OK {
			t.Error(s, v, ok, e)
		}
	}
	if found[true] < 1000 || found[false] < 500 {
		t.Error("too few of a kind", found)
	}
}

// P7.9: a tray that is filled has a determinant as large as the area, up to its sign.
func TestDeterminants(t *testing.T) {
	d := &dice{8}
	vectors := vectorsTo(5)
	filled := 0
	for _, s := range all() {
		cells, _ := moulds.Cells(s)
		area, _ := moulds.Area(s)
		if len(cells) > 30 {
			continue
		}
		for range 20 {
			v, w := vectors[d.from(0, len(vectors)-1)], vectors[d.from(0, len(vectors)-1)]
			ok, e := moulds.Fills(cells, v, w)
			size := refDeterminant(v, w)
			if e != api.OK || ok && size != area && size != -area {
				t.Error(s, v, w, ok, e)
			}
			if ok {
				filled++
			}
			// Vectors in the other order, turned around or added move to the same places.
			for _, x := range [][2]point{{w, v}, {{-v[0], -v[1]}, w}, {moved(v, w), w}, {v, moved(w, point{-v[0], -v[1]})}} {
				if same, e := moulds.Fills(cells, x[0], x[1]); same != ok || e != api.OK {
					t.Error(s, v, w, x, same, e)
				}
			}
		}
	}
	if filled < 200 {
		t.Error("too few trays", filled)
	}
}

// P7.10
func TestMirrorsAndQuarters(t *testing.T) {
	for _, s := range all() {
		area, _ := moulds.Area(s)
		tile, _ := moulds.Tile(s)
		factors, _ := moulds.Factors(s)
		first, _ := moulds.First(s)
		for name, change := range map[string]func(string) (string, api.Errno){"Mirror": moulds.Mirror, "Quarter": moulds.Quarter} {
			changed, e := change(s)
			if e != api.OK {
				t.Error(name, s, e)
			}
			if n, e := moulds.Area(changed); n != area || e != api.OK {
				t.Error(name, s, n, e)
			}
			if ok, e := moulds.Tile(changed); ok != tile || e != api.OK {
				t.Error(name, s, ok, e)
			}
			if n, e := moulds.Factors(changed); n != factors || e != api.OK {
				t.Error(name, s, n, e)
			}
			if f, _ := moulds.First(changed); f != changed {
				t.Error(name, s, changed, f)
			}
			again := s
			for range map[string]int{"Mirror": 2, "Quarter": 4}[name] {
				again, _ = change(again)
			}
			if again != first {
				t.Error(name, s, again, first)
			}
		}
	}
}

// P7.11
func TestBacksOfBacks(t *testing.T) {
	d := &dice{1}
	for length := range 25 {
		for range 100 {
			s := d.text("ruld", length)
			back, _ := moulds.Back(s)
			again, e := moulds.Back(back)
			if again != s || e != api.OK {
				t.Error(s, back, again, e)
			}
			if moved(refSum(s), refSum(back)) != (point{}) {
				t.Error(s, back)
			}
		}
	}
}
