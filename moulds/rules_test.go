package moulds_test

import (
	"reflect"
	"slices"
	"testing"

	"comfit/moulds"
)

// results are those of all functions for an outline and some vectors.
func results(s string, v, w point) []any {
	var l []any
	add := func(values ...any) { l = append(l, values...) }
	cells, e := moulds.Cells(s)
	old := slices.Clone(cells)
	add(moulds.Is(s), cells, e)
	area, e := moulds.Area(s)
	add(area, e)
	first, e := moulds.First(s)
	add(first, e)
	back, e := moulds.Back(s)
	add(back, e)
	factor, e := moulds.Factor(s)
	add(factor, e)
	factors, e := moulds.Factors(s)
	add(factors, e)
	vectors, e := moulds.Vectors(s)
	add(vectors, e)
	tile, e := moulds.Tile(s)
	add(tile, e)
	mirrored, e := moulds.Mirror(s)
	add(mirrored, e)
	turned, e := moulds.Quarter(s)
	add(turned, e)
	outline, e := moulds.Outline(cells)
	add(outline, e)
	fills, e := moulds.Fills(cells, v, w)
	return append(l, fills, e, slices.Equal(cells, old))
}

// Rule 2: the same calls give the same results, whatever was called in between; rule 4: no argument is changed.
func TestSameCallsGiveSameResults(t *testing.T) {
	all := slices.Concat(outlines(), []string{"", "rdlu", "ruldr"})
	var want [][]any
	for _, s := range all {
		l := results(s, point{2, 0}, point{1, 2})
		if l[len(l)-1] != true {
			t.Error("changed:", s)
		}
		want = append(want, l)
	}
	for range 2 {
		for i, s := range slices.Backward(all) {
			if l := results(s, point{2, 0}, point{1, 2}); !reflect.DeepEqual(l, want[i]) {
				t.Error(s, l, want[i])
			}
		}
	}
}

// Rule 4: no argument is changed, also behind its end, and what is not valid is neither.
func TestArgumentsAreKept(t *testing.T) {
	d := &dice{10}
	lists := badCells()
	for number := 1; number <= 30; number++ {
		lists = append(lists, append(d.drawnCells(number), point{7, 7})[:number])
	}
	for _, cells := range lists {
		old := slices.Clone(cells[:cap(cells)])
		moulds.Outline(cells)
		moulds.Fills(cells, point{1, 0}, point{0, len(cells)})
		if !slices.Equal(cells[:cap(cells)], old) {
			t.Error("changed:", old, cells)
		}
	}
}

// Rule 4: no result shares memory with another one.
func TestMemory(t *testing.T) {
	for _, s := range chosenOutlines() {
		want := refCells(s)
		l, _ := moulds.Cells(s)
		for i := range l {
			l[i] = point{99, 99}
		}
		_ = append(l, point{99, 99})
		if again, _ := moulds.Cells(s); !slices.Equal(again, want) {
			t.Error(s, again, want)
		}
	}
}
