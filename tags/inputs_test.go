package tags_test

import (
	"math"
	"slices"
	"strings"

	"comfit/tags"
)

// dice is a row of numbers that look as if drawn by lot, the same in every run.
type dice struct{ at uint32 }

func (d *dice) from(low, high int) int {
	d.at = d.at*1664525 + 1013904223
	return low + int(d.at>>8)%(high-low+1)
}

func (d *dice) text(letters string, length int) string {
	s := ""
	for range length {
		s += string(letters[d.from(0, len(letters)-1)])
	}
	return s
}

// cutter is the arguments of a cutter, with a tape.
type cutter struct {
	cut     int
	strings [4]string
	tape    string
}

// Cutters that tests name.
var (
	collatz = [4]string{"bc", "a", "aaa", ""}
	slow    = [4]string{"d", "cab", "dcbd", ""}      // stops after 1019 steps, with 2 of bacb
	wide    = [4]string{"bcac", "", "bbc", ""}       // too long at step 1002, with 1 of abbabacb
	round   = [4]string{"ddcd", "cccd", "b", "badb"} // comes again after 119 and 882 more steps, with 3 of adccbbabbaac
)

func chosenCutters() []cutter {
	l := []cutter{
		{1, [4]string{}, ""}, {1, [4]string{}, "a"}, {3, [4]string{}, "abcd"}, {3, [4]string{}, "abcdabcdabcd"}, {2, [4]string{}, "abcda"},
		{1, [4]string{"b", "a"}, "ab"}, {1, [4]string{"a"}, "ba"}, {1, [4]string{"a", "b", "c", "d"}, "abcd"}, {2, [4]string{"ab", "cd", "a", "b"}, "ab"},
		{1, [4]string{"b", "c", "d", "a"}, "a"}, {1, [4]string{"b", "c", "d", ""}, "a"}, {1, [4]string{"aa"}, "a"}, {3, [4]string{"aaaa"}, "aaa"},
		{2, collatz, "aaa"}, {2, collatz, strings.Repeat("a", 7)}, {2, collatz, strings.Repeat("a", 15)}, {2, collatz, strings.Repeat("a", 27)},
		{2, slow, "bacb"}, {1, wide, "abbabacb"}, {3, round, "adccbbabbaac"},
		{1, [4]string{"aa"}, strings.Repeat("a", 200)}, {1, [4]string{"b", "b"}, strings.Repeat("ab", 100)}, {3, [4]string{"", "", "", "dddd"}, strings.Repeat("d", 199)},
	}
	return l
}

// smallCutters returns all cutters with at most 2 letters a or b for each of these, with tapes of some lengths.
func smallCutters() []cutter {
	var l []cutter
	few := []string{"", "a", "b", "aa", "ab", "ba", "bb"}
	for cut := 1; cut <= 3; cut++ {
		for _, a := range few {
			for _, b := range few {
				for _, tape := range append(few, "aab", "bab", "aabb", "babba") {
					l = append(l, cutter{cut, [4]string{a, b, "", ""}, tape})
				}
			}
		}
	}
	return l
}

// drawnCutters returns n cutters of all kinds.
func drawnCutters(n int) []cutter {
	d := &dice{3}
	var l []cutter
	for range n {
		letters := "abcd"[:d.from(1, 4)]
		c := cutter{cut: d.from(1, 3), tape: d.text(letters, d.from(0, 16))}
		for i := range c.strings {
			c.strings[i] = d.text(letters, d.from(0, 4))
		}
		if d.from(1, 10) == 1 {
			c.tape = d.text(letters, d.from(195, 200))
		}
		l = append(l, c)
	}
	return l
}

func cutters() []cutter { return slices.Concat(chosenCutters(), smallCutters(), drawnCutters(3000)) }

// badTexts returns strings that are none of at most so many letters.
func badTexts(most int) []string {
	l := []string{strings.Repeat("a", most+1), strings.Repeat("abcd", most), strings.Repeat("d", 1<<16), strings.Repeat("a", most) + "\x00"}
	for _, s := range []string{"e", "`", "A", "D", "x", " ", "\x00", "\xff", "\u0430", "\n", "1"} {
		l = append(l, s)
		if len(s) == 1 {
			l = append(l, s+"a", "a"+s, "a"+s+"b", s+s)
		}
	}
	return l
}

// badCutters returns cutters that are none, with tapes that are some.
func badCutters() []cutter {
	var l []cutter
	for _, cut := range outside(1, 3) {
		l = append(l, cutter{cut, collatz, "aaa"}, cutter{cut, collatz, ""}, cutter{cut, [4]string{"aaaa"}, strings.Repeat("a", 200)})
	}
	for at := range 4 {
		for _, s := range badTexts(4) {
			c := cutter{2, collatz, "aaa"}
			c.strings[at] = s
			l = append(l, c)
		}
	}
	return l
}

// outside returns numbers that are not from low to high.
func outside(low, high int) []int {
	return []int{low - 1, low - 2, high + 1, high + 2, low - 1000, high + 1000, math.MinInt, math.MinInt + 1, math.MaxInt, 1 << 32, -1 << 32}
}

// Machines that tests name.
var (
	adder = []tags.Order{{Do: 2, Jar: 1, Then: 1, Else: 2}, {Do: 1}, {}}
	loop  = []tags.Order{{Do: 1}}
	odd   = []tags.Order{{Do: 2, Then: 2, Else: 1}, {Do: 1}, {}} // finds its jar empty, and not so the next time
	// With x and y in the jars it ends after 9x + y + 2 steps.
	long = []tags.Order{
		{Do: 2, Jar: 0, Then: 1, Else: 5}, {Do: 1, Jar: 1, Then: 2}, {Do: 1, Jar: 1, Then: 3}, {Do: 1, Jar: 1, Then: 4}, {Do: 1, Jar: 1, Then: 0},
		{Do: 2, Jar: 1, Then: 5, Else: 6}, {},
	}
	// With x in jar 0 its first circle ends after 2x + 2 steps; with one order more, one step later.
	late  = []tags.Order{{Do: 2, Jar: 0, Then: 1, Else: 2}, {Do: 2, Jar: 1}, {Do: 1, Then: 2}}
	later = []tags.Order{{Do: 2, Jar: 0, Then: 1, Else: 2}, {Do: 2, Jar: 1}, {Do: 2, Jar: 0, Then: 2, Else: 3}, {Do: 1, Then: 3}}
)

func chosenMachines() [][]tags.Order {
	return [][]tags.Order{
		adder, loop, odd, long, late, later,
		{{Do: 2, Jar: 0, Then: 1, Else: 2}, {Do: 1, Jar: 1}, {}},
		{{Do: 2, Jar: 0, Then: 0, Else: 1}, {Do: 1, Jar: 0}},
		{{Do: 1, Jar: 1, Then: 1}, {Do: 2, Jar: 0}},
		{{Do: 2, Jar: 0, Then: 1, Else: 0}, {Do: 2, Jar: 1, Then: 0, Else: 2}, {}},
		{{}, {Do: 1, Jar: 1, Then: 7}, {}, {Do: 2, Then: 4, Else: 1}, {}, {}, {}, {Do: 1}},
		{{Do: 1, Then: 7}, {}, {}, {}, {}, {}, {}, {Do: 2, Jar: 1, Then: 5, Else: 3}},
	}
}

// orders returns all orders of a machine with n of them.
func orders(n int) []tags.Order {
	l := []tags.Order{{}}
	for jar := range 2 {
		for then := range n {
			l = append(l, tags.Order{Do: 1, Jar: jar, Then: then})
			for other := range n {
				l = append(l, tags.Order{Do: 2, Jar: jar, Then: then, Else: other})
			}
		}
	}
	return l
}

// machinesOf returns all machines of n orders.
func machinesOf(n int) [][]tags.Order {
	l := [][]tags.Order{nil}
	for range n {
		var longer [][]tags.Order
		for _, m := range l {
			for _, o := range orders(n) {
				longer = append(longer, append(slices.Clone(m), o))
			}
		}
		l = longer
	}
	return l
}

// drawnMachines returns n machines of 3 to 8 orders.
func drawnMachines(n int) [][]tags.Order {
	d := &dice{4}
	var l [][]tags.Order
	for range n {
		count := d.from(3, 8)
		ends, puts := d.from(0, 2), d.from(2, 6) // of 10 orders
		m := make([]tags.Order, count)
		for i := range m {
			if kind := d.from(1, 10); kind <= puts {
				m[i] = tags.Order{Do: 1, Jar: d.from(0, 1), Then: d.from(0, count-1)}
			} else if kind <= 10-ends {
				m[i] = tags.Order{Do: 2, Jar: d.from(0, 1), Then: d.from(0, count-1), Else: d.from(0, count-1)}
			}
		}
		l = append(l, m)
	}
	return l
}

// machines returns the smallest machines, and some of all lengths.
func machines() [][]tags.Order {
	l := slices.Concat(chosenMachines(), machinesOf(1), machinesOf(2), drawnMachines(1500))
	for i, m := range machinesOf(3) {
		if i%17 == 0 {
			l = append(l, m)
		}
	}
	return l
}

// someJars are what may be in the jars at the beginning.
var someJars = [][2]int{{0, 0}, {1, 0}, {0, 3}, {2, 5}, {100, 7}, {1, 100}}

// badMachines returns slices that are no machines.
func badMachines() [][]tags.Order {
	l := [][]tags.Order{nil, {}, make([]tags.Order, 9), make([]tags.Order, 1000)}
	good := []tags.Order{{Do: 1, Jar: 1, Then: 2}, {}, {Do: 2, Jar: 1, Then: 1, Else: 3}, {}} // 1 and 3 are the ends
	for at := range good {
		with := func(change func(o *tags.Order, x int), numbers ...int) {
			for _, x := range numbers {
				m := slices.Clone(good)
				change(&m[at], x)
				l = append(l, m)
			}
		}
		with(func(o *tags.Order, x int) { o.Do = x }, outside(0, 2)...)
		with(func(o *tags.Order, x int) { o.Jar = x }, outside(0, 1)...)
		with(func(o *tags.Order, x int) { o.Then = x }, outside(0, 3)...)
		with(func(o *tags.Order, x int) { o.Else = x }, outside(0, 3)...)
		with(func(o *tags.Order, x int) { *o = tags.Order{Do: x, Jar: 1, Then: 1, Else: 1} }, 0, 1)
		// What is not used is 0.
		with(func(o *tags.Order, x int) { *o = tags.Order{Jar: x} }, 1)
		with(func(o *tags.Order, x int) { *o = tags.Order{Then: x} }, 1, 2, 3)
		with(func(o *tags.Order, x int) { *o = tags.Order{Else: x} }, 1, 2, 3)
		with(func(o *tags.Order, x int) { *o = tags.Order{Do: 1, Else: x} }, 1, 2, 3)
	}
	return append(l, []tags.Order{{Do: 1, Then: 1}}, []tags.Order{{Do: 2, Then: 1}}, []tags.Order{{Do: 2, Else: 1}}, []tags.Order{{Do: 3}}, []tags.Order{{Do: -1}})
}

// badJars returns jars that have too much or too little in them.
func badJars() [][2]int {
	var l [][2]int
	for _, x := range outside(0, 100) {
		l = append(l, [2]int{x, 0}, [2]int{0, x}, [2]int{x, 100}, [2]int{100, x}, [2]int{x, x})
	}
	return l
}
