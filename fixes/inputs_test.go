package fixes_test

import (
	"math"
	"slices"
	"strings"

	"comfit/fixes"
)

// dice is a row of numbers that look as if drawn by lot, the same in every run.
type dice struct{ at uint32 }

func (d *dice) from(low, high int) int {
	d.at = d.at*1664525 + 1013904223
	return low + int(d.at>>8)%(high-low+1)
}

func (d *dice) one(of string) string {
	i := d.from(0, len(of)-1)
	return of[i : i+1]
}

// formula returns a formula of so many bytes with some digits, within an m or g of each open letter.
func (d *dice) formula(length int, digits, open string) string {
	free := strings.Trim("xyz", open) // letters are opened from the front
	kind := d.from(1, 12)
	switch {
	case length == 1 && open != "" && kind <= 8:
		return d.one(open)
	case length == 1:
		return d.one(digits + digits + digits + "tf")
	case length == 2 && kind <= 6:
		return "-" + d.one(digits)
	case length == 2 || kind <= 5 && length < 8:
		return d.one("<[") + d.formula(length-1, digits, open)
	case kind <= 8 && free != "":
		return d.one("mg") + free[:1] + d.formula(length-2, digits, open+free[:1])
	}
	first := d.from(1, length-2)
	return d.one("&|") + d.formula(first, digits, open) + d.formula(length-1-first, digits, open)
}

// plain returns a formula of so many bytes without m, g and letters.
func (d *dice) plain(length int) string {
	kind := d.from(1, 10)
	switch {
	case length == 1:
		return d.one("01230123tf")
	case length == 2 && kind <= 5:
		return "-" + d.one("0123")
	case length == 2 || kind <= 5:
		return d.one("<[") + d.plain(length-1)
	}
	first := d.from(1, length-2)
	return d.one("&|") + d.plain(first) + d.plain(length-1-first)
}

func chosenFormulas() []string {
	return []string{
		"0", "1", "2", "3", "-0", "-1", "-2", "-3", "t", "f", "<t", "<f", "[t", "[f", "&tf", "|tf", "&01", "|2-3", "<[<[0",
		"mx|0<x", "gx&0<x", "gx<x", "mx[x", "mxx", "gxx", "mxt", "gxf", "mx|0[x", "gx&-0[x", "gxmy|&0<x<y", "mxgy&|0<x[y", "&mx|0<xmx|1<x", "|gx&0<xmx|1[x",
		"gxmygz|&0<x|<y&1<z", "mzgymx&|z0|y<x", "mxmymz||x0|<y<z", "&gxmy|&0<x<ygxmy|&1<x<y", "<gx&0<x", "[mx|1<x", "mx|&0gy&1<y<x",
		"mx|&0my|1<y&<xmy|2[y", "gz<[z", "my|[f<[y", "gx&<xmy|0<y",
		"mx|gy&0<y|mz|1<z<x", "<<<<<<<<<<<<<<<<<<<<<<<<<<<<<<<<<<<<<<<0", strings.Repeat("[", 39) + "f", strings.Repeat("&0", 19) + "-0",
	}
}

// drawnFormulas returns n formulas of 1 to 40 bytes with some digits.
func drawnFormulas(seed uint32, n int, digits string) []string {
	d := &dice{seed}
	var l []string
	for i := range n {
		length := i%40 + 1
		if i%3 > 0 {
			length = i%20 + 1
		}
		l = append(l, d.formula(length, digits, ""))
	}
	return l
}

// fixedFormulas returns those that begin with m or g, and drawn ones.
func fixedFormulas(seed uint32, n int, digits string) []string {
	d := &dice{seed}
	var l []string
	for i := range n {
		begin := d.one("mg") + "x"
		if i%2 == 0 {
			begin += d.one("&|") + d.one(digits) + d.one("<[")
		}
		l = append(l, begin+d.formula(i/2%16+1, digits, "x"))
	}
	for _, f := range chosenFormulas() {
		if f[0] == 'm' || f[0] == 'g' {
			l = append(l, f)
		}
	}
	return l
}

// noFormulas returns strings that are no formulas.
func noFormulas() []string {
	return []string{
		"", " ", "x", "y", "z", "4", "9", "/", ":", "a", "T", "F", "M", "\x00", "\xff", "0 ", " 0", "00", "tt", "tf", "0t", "t\x00", "\u0430", "()", "(0)",
		"-", "--0", "-t", "-f", "-x", "-4", "-/", "-<0", "-&01", "-mxx", "0-", "mx-x", "!0", "~0",
		"&", "&0", "&01t", "|", "|t", "|01-", "0&1", "0|1", "&&01", "||01", "<", "[", "<<", "0<", "0[", "<01", "[01", "<>0", "[]0",
		"m", "g", "mx", "gx", "mt", "m0", "mxy", "gxz", "mxxx", "mmx", "mx0x", "m<0", "mmxx", "mw0", "ma0", "m{0", "mX0", "gx", "g", "x0", "gg", "m&00",
		"&mx0x", "&xmx0", "|gx<xx", "<x", "&mxxgyx", "mx&xy", "mx my x", "mxmxx", "mxgxx", "gxmx0", "gxgx0", "mxmygxx", "mx&0my|xmx0", "mx&mxx0", "mx|myy<y", "gxgygzgx0", "mxmymzmx0",
	}
}

// longTexts returns strings that would be formulas if they could be longer.
func longTexts() []string {
	return []string{
		strings.Repeat("<", 40) + "0", strings.Repeat("[", 39) + "-0", strings.Repeat("&0", 20) + "0", "mx" + strings.Repeat("<", 38) + "x", strings.Repeat("[", 1000) + "t",
		strings.Repeat("|-0", 13) + "-0", strings.Repeat("<", 4000) + "0", strings.Repeat("&", 1<<16), strings.Repeat("<", 1<<20) + "t",
	}
}

var line = fixes.Works{Next: []int{2, 4, 4}, Marks: []int{0, 0, 1}}

func chosenWorks() []fixes.Works {
	return []fixes.Works{
		line,
		{Next: []int{0}, Marks: []int{0}}, {Next: []int{1}, Marks: []int{15}}, {Next: []int{2, 1, 4}, Marks: []int{1, 1, 1}}, {Next: []int{0, 0, 0}, Marks: []int{1, 2, 4}},
		{Next: []int{2, 4, 8, 16, 32, 0}, Marks: []int{0, 0, 0, 0, 0, 0}},
		{Next: []int{2, 4, 8, 16, 32, 32}, Marks: []int{0, 0, 0, 0, 0, 8}},
		{Next: []int{2, 4, 8, 16, 32, 1}, Marks: []int{0, 0, 0, 0, 0, 1}},
		{Next: []int{2, 4, 8, 16, 32, 1}, Marks: []int{1, 0, 1, 0, 1, 0}},
		{Next: []int{2, 4, 1, 16, 8, 32}, Marks: []int{0, 0, 0, 0, 0, 0}},
		{Next: []int{62, 60, 56, 48, 32, 0}, Marks: []int{0, 0, 0, 0, 0, 0}},
		{Next: []int{63, 63, 63, 63, 63, 63}, Marks: []int{0, 1, 2, 4, 8, 15}},
		{Next: []int{63, 63, 63, 63, 63, 63}, Marks: []int{7, 7, 7, 7, 7, 7}},
		{Next: []int{6, 10, 20, 40, 16, 0}, Marks: []int{0, 0, 0, 0, 0, 0}},
		{Next: []int{6, 24, 32, 0, 32, 0}, Marks: []int{0, 0, 0, 1, 0, 2}},
		{Next: []int{12, 4, 48, 16, 0, 32}, Marks: []int{0, 0, 1, 1, 3, 3}}, // 0 and 1 differ by what 3 can't do
		{Next: []int{0, 1, 3, 7, 15, 31}, Marks: []int{3, 3, 3, 3, 3, 3}},
	}
}

// worksOf returns all works with n states with these sets of marks.
func worksOf(n int, marks ...int) []fixes.Works {
	l := []fixes.Works{{}}
	for range n {
		var longer []fixes.Works
		for _, w := range l {
			for next := range 1 << n {
				for _, m := range marks {
					longer = append(longer, fixes.Works{Next: append(slices.Clone(w.Next), next), Marks: append(slices.Clone(w.Marks), m)})
				}
			}
		}
		l = longer
	}
	return l
}

// drawnWorks returns works of 1 to 6 states, with marks up to the greatest; some have few next states, or few marks.
func drawnWorks(seed uint32, number, greatest int) []fixes.Works {
	d := &dice{seed}
	var l []fixes.Works
	for i := range number {
		n := i%6 + 1
		all := 1<<n - 1
		thin, plain := d.from(0, 2), d.from(0, 2) // how often a set is made smaller
		w := fixes.Works{Next: make([]int, n), Marks: make([]int, n)}
		for s := range n {
			w.Next[s] = d.from(0, all)
			for range thin {
				w.Next[s] &= d.from(0, all)
			}
			w.Marks[s] = d.from(0, greatest)
			for range plain {
				w.Marks[s] &= d.from(0, greatest)
			}
		}
		l = append(l, w)
	}
	return l
}

// works returns the smallest works, and some of all numbers of states.
func works() []fixes.Works {
	all := []int{0, 1, 2, 3, 4, 5, 6, 7, 8, 9, 10, 11, 12, 13, 14, 15}
	return slices.Concat(chosenWorks(), worksOf(1, all...), worksOf(2, 0, 1, 6), worksOf(3, 0, 1), drawnWorks(1, 1200, 15), drawnWorks(2, 1200, 1), drawnWorks(7, 600, 0))
}

// fewWorks returns some works of each kind, for tests that take long with each one.
func fewWorks() []fixes.Works {
	return slices.Concat(chosenWorks(), worksOf(1, 0, 1, 15), worksOf(2, 0, 3), drawnWorks(3, 120, 15), drawnWorks(4, 60, 1))
}

// outside returns numbers that are not from low to high.
func outside(low, high int) []int {
	return []int{low - 1, low - 2, high + 1, high + 2, low - 1000, high + 1000, math.MinInt, math.MinInt + 1, math.MaxInt, 1 << 32, -1 << 32}
}

// badWorks returns what is no works.
func badWorks() []fixes.Works {
	l := []fixes.Works{
		{}, {Next: []int{}, Marks: []int{}}, {Next: []int{0}}, {Marks: []int{0}}, {Next: []int{0, 0}, Marks: []int{0}}, {Next: []int{0}, Marks: []int{0, 0}},
		{Next: make([]int, 7), Marks: make([]int, 7)}, {Next: make([]int, 6), Marks: make([]int, 7)}, {Next: make([]int, 7), Marks: make([]int, 6)},
		{Next: make([]int, 64), Marks: make([]int, 64)}, {Next: make([]int, 100000), Marks: make([]int, 100000)},
	}
	for n := 1; n <= 6; n++ {
		for s := range n {
			for _, next := range outside(0, 1<<n-1) {
				w := fixes.Works{Next: make([]int, n), Marks: make([]int, n)}
				w.Next[s] = next
				l = append(l, w)
			}
			for _, marks := range outside(0, 15) {
				w := fixes.Works{Next: make([]int, n), Marks: make([]int, n)}
				w.Marks[s] = marks
				l = append(l, w)
			}
		}
	}
	return l
}
