package moulds_test

import (
	"math"
	"slices"
	"strings"
)

// dice is a row of numbers that look as if drawn by lot, the same in every run.
type dice struct{ at uint32 }

func (d *dice) from(low, high int) int {
	d.at = d.at*1664525 + 1013904223
	return low + int(d.at>>8)%(high-low+1)
}

func (d *dice) text(letters string, length int) string {
	s := ""
	for range length {
		s += string(letters[d.from(0, len(letters)-1)])
	}
	return s
}

// words returns all words of so many letters.
func words(length int) []string {
	l := []string{""}
	for range length {
		var longer []string
		for _, s := range l {
			for _, letter := range "ruld" {
				longer = append(longer, s+string(letter))
			}
		}
		l = longer
	}
	return l
}

// outlinesOf returns all outlines of so many letters that begin so.
func outlinesOf(length int, beginning string) []string {
	path := refPath(beginning)
	end := path[len(path)-1]
	if far := max(end[0], -end[0]) + max(end[1], -end[1]); far > length-len(beginning) {
		return nil
	}
	if len(beginning) == length {
		if refIs(beginning) {
			return []string{beginning}
		}
		return nil
	}
	if slices.Contains(path[:len(path)-1], end) {
		return nil
	}
	var l []string
	for _, letter := range "dlru" {
		l = append(l, outlinesOf(length, beginning+string(letter))...)
	}
	return l
}

// allOutlines returns all outlines of at most so many letters.
func allOutlines(most int) []string {
	var l []string
	for length := 4; length <= most; length += 2 {
		l = append(l, outlinesOf(length, "")...)
	}
	return l
}

// firstOutlines returns all outlines of so many letters that are the first of their turns.
func firstOutlines(length int) []string {
	return slices.DeleteFunc(outlinesOf(length, "d"), func(s string) bool { return s != refFirst(s) })
}

// box returns the outline of so many columns and rows.
func box(columns, rows int) string {
	return strings.Repeat("r", columns) + strings.Repeat("u", rows) + strings.Repeat("l", columns) + strings.Repeat("d", rows)
}

// chosenOutlines are some of all kinds, with those that hold the most.
func chosenOutlines() []string {
	l := []string{
		"uldr", "ldru", "drul", "lddruu", "rrululdd", // one, two and three cells
		"rrurulldld", "rrrululdld", "rurululdldrd", "dldldrruruul", "ddrrurululdl", // an S, a T, a cross, stairs, a Z
		"rrruuldluldd", "ddrrrrruuldluldlul", "dldrrrrrululdlul", // a U, combs
		"ddllldrrrruuuullllddrurr",                             // a ring with a gap
		"ddddddrrrrrruuuuululllll", "dddddldrrrrrruuuuuulllll", // a square without a corner
	}
	for columns := 1; columns <= 11; columns++ {
		for _, rows := range []int{1, 2, 6 - columns, 12 - columns} {
			if rows >= 1 && columns+rows <= 12 {
				l = append(l, box(columns, rows))
			}
		}
	}
	return l
}

// right and left are the steps to the right and to the left of one.
func right(letter byte) string { return string("drul"[strings.IndexByte("ruld", letter)]) }
func left(letter byte) string  { return refBack(right(letter)) }

// drawnOutline returns an outline of so many letters, which grows from a cell: a step becomes three, or two steps change places.
func (d *dice) drawnOutline(length int) string {
	for s := "ruld"; ; {
		at := d.from(0, len(s)-2)
		t := s[:at] + right(s[at]) + s[at:at+1] + left(s[at]) + s[at+1:]
		if len(t) > length || d.from(1, 2) == 1 {
			t = s[:at] + s[at+1:at+2] + s[at:at+1] + s[at+2:]
		}
		if refCloses(t) {
			s = t
		}
		if len(s) == length && d.from(1, 12) == 1 && refIs(s) {
			put := d.from(0, len(s)-1)
			return s[put:] + s[:put]
		}
	}
}

// drawnFiller returns an outline of so many letters that has a factoring.
func (d *dice) drawnFiller(length int) string {
	for {
		a := d.from(1, length/2-1)
		b := d.from(1, length/2-a)
		s := d.text("ruldrru", a) + d.text("ruldluu", b) + d.text("ruldlld", length/2-a-b)
		s += refBack(s[:a]) + refBack(s[a:a+b]) + refBack(s[a+b:])
		if refIs(s) {
			put := d.from(0, length-1)
			return s[put:] + s[:put]
		}
	}
}

// drawnOutlines returns n outlines of each length from 14 on, half of them with a factoring.
func drawnOutlines(n int) []string {
	d := &dice{7}
	var l []string
	for length := 14; length <= 24; length += 2 {
		for range n / 2 {
			l = append(l, d.drawnOutline(length), d.drawnFiller(length))
		}
	}
	return l
}

// outlines returns outlines of all kinds, with all of at most 10 letters.
func outlines() []string { return slices.Concat(chosenOutlines(), allOutlines(10), drawnOutlines(60)) }

// badOutlines returns strings that are no outlines.
func badOutlines() []string {
	l := []string{
		"", "r", "u", "rl", "ud", "rul", "rulr", "ruldr", "ruldrl", // open, or too few
		"rrr", "ruru", "rrrrrrrr", "rrulldrrull",
		"rdlu", "urdl", "uurrddll", "rrddlluu", "rrdrdlluul", // to the right
		"rlrl", "rlud", "ruldruld", "ruldldru", "ruldlurd", "ruldrdlu", "ruulddrrulld", "rulduldr", "rrlulldr", "rudlurld", // at a point twice
		box(11, 2), box(12, 1), box(1, 12), box(100, 100), strings.Repeat("ruld", 7), strings.Repeat("r", 1<<16), // too long
		strings.Repeat("r", 24), strings.Repeat("ruld", 6),
		"RULD", "rUld", "ruld ", " ruld", "ru ld", "ruld\x00", "ruld\xff", "rulv", "xuld", "r\u0443ld", "\u0433uld", "1234", "\n",
	}
	for _, s := range []string{"ruld", "rrulld", "ddruul", box(6, 6)} {
		for at := range s {
			l = append(l, s[:at]+s[at+1:], s[:at]+"e"+s[at+1:], s[:at]+"\xff"+s[at+1:], s[:at]+s[at:at+1]+s[at:])
		}
	}
	return l
}

// outside returns numbers below low and above high.
func outside(low, high int) []int {
	return []int{low - 1, low - 2, high + 1, high + 2, -1 << 32, 1 << 32, 1<<62 + 1, math.MinInt, math.MinInt + 1, math.MaxInt, math.MaxInt - 1}
}

// setsIn returns all sets of cells in a box of so many columns and rows, but the empty one.
func setsIn(columns, rows int) [][]point {
	var l [][]point
	for set := 1; set < 1<<(columns*rows); set++ {
		var cells []point
		for at := range columns * rows {
			if set>>at&1 == 1 {
				cells = append(cells, point{at / rows, at % rows})
			}
		}
		l = append(l, cells)
	}
	return l
}

// drawnCells returns cells of which each next one has a side with one of those before, as far as all are counted.
func (d *dice) drawnCells(number int) []point {
	begin := point{d.from(-80, 80), d.from(-80, 80)}
	set := map[point]bool{begin: true}
	l := []point{begin}
	for len(l) < number {
		next := moved(l[d.from(0, len(l)-1)], moves["ruld"[d.from(0, 3)]])
		if !set[next] {
			set[next] = true
			l = append(l, next)
		}
	}
	slices.SortFunc(l, comparePoints)
	return l
}

// row returns so many cells from one on, one beside the other.
func row(begin point, number int) []point {
	var l []point
	for i := range number {
		l = append(l, moved(begin, point{i, 0}))
	}
	return l
}

// badCells returns lists of cells that are not valid.
func badCells() [][]point {
	l := [][]point{
		nil, {}, {{0, 0}, {0, 0}}, {{1, 0}, {0, 0}}, {{0, 1}, {0, 0}}, {{0, 1}, {1, 0}, {0, 2}}, {{0, 0}, {0, 1}, {0, 1}}, {{0, 0}, {1, 1}, {1, 0}},
		row(point{0, 0}, 31), row(point{-100, 100}, 201), row(point{-100, 0}, 1<<16), row(point{71, 0}, 31)[:31], row(point{72, 0}, 30), row(point{-101, 0}, 30),
		make([]point, 30), make([]point, 1<<16),
	}
	for _, n := range outside(-100, 100) {
		l = append(l, []point{{n, 0}}, []point{{0, n}}, []point{{n, n}})
		l = append(l, []point{{min(n, 0), 0}, {max(n, 0), 0}}, []point{{0, min(n, 0)}, {0, max(n, 0)}}, []point{{0, n}, {1, 0}})
	}
	return l
}
