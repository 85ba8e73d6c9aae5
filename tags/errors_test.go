package tags_test

import (
	"math"
	"strings"
	"testing"

	"comfit/api"
	"comfit/tags"
)

// checkBadCutter holds all functions of cutters against ErrArg.
func checkBadCutter(t *testing.T, c cutter, steps int) {
	t.Helper()
	if s, e := tags.Cut(c.cut, c.strings, c.tape); s != "" || e != api.ErrArg {
		t.Error("Cut", c, s, e)
	}
	if s, n, e := tags.Run(c.cut, c.strings, c.tape, steps); s != "" || n != 0 || e != api.ErrArg {
		t.Error("Run", c, steps, s, n, e)
	}
	if b, l, e := tags.Again(c.cut, c.strings, c.tape); b != 0 || l != 0 || e != api.ErrArg {
		t.Error("Again", c, b, l, e)
	}
}

// P6.1, P6.2: ErrArg if the cutter is not valid, also where it would be ErrNone or ErrSize, or where what is not valid is not used.
func TestBadCutters(t *testing.T) {
	for _, c := range badCutters() {
		for _, steps := range []int{0, 1, 1000, -1, 1001} {
			checkBadCutter(t, c, steps)
		}
	}
}

// P6.1, P6.2: ErrArg if the tape is not valid.
func TestBadTapes(t *testing.T) {
	for _, put := range [][4]string{{}, collatz, {"aaaa", "aaaa", "aaaa", "aaaa"}} {
		for cut := 1; cut <= 3; cut++ {
			for _, tape := range badTexts(200) {
				for _, steps := range []int{0, 1, 1000, -1, 1001} {
					checkBadCutter(t, cutter{cut, put, tape}, steps)
				}
			}
		}
	}
}

// P6.1: ErrArg unless steps is from 0 to 1000.
func TestBadStepsOfCutters(t *testing.T) {
	for _, c := range chosenCutters() {
		for _, steps := range outside(0, 1000) {
			if s, n, e := tags.Run(c.cut, c.strings, c.tape, steps); s != "" || n != 0 || e != api.ErrArg {
				t.Error(c, steps, s, n, e)
			}
		}
	}
}

// P6.1, P6.2: the largest arguments and all letters are valid.
func TestLargestCutters(t *testing.T) {
	for cut := 1; cut <= 3; cut++ {
		for _, put := range [][4]string{{"abcd", "dcba", "aaaa", "dddd"}, {"", "d", "dd", "ddd"}} {
			for _, tape := range []string{"", "abcd", "d", strings.Repeat("abcd", 50)} {
				if _, e := tags.Cut(cut, put, tape); e == api.ErrArg {
					t.Error("Cut", cut, put, tape)
				}
				if _, _, e := tags.Run(cut, put, tape, 1000); e == api.ErrArg {
					t.Error("Run", cut, put, tape)
				}
				if _, _, e := tags.Again(cut, put, tape); e == api.ErrArg {
					t.Error("Again", cut, put, tape)
				}
			}
		}
	}
}

// checkBadRun holds all functions with jars against ErrArg.
func checkBadRun(t *testing.T, m []tags.Order, jars [2]int) {
	t.Helper()
	for _, steps := range []int{0, 1, 1000, -1, 1001} {
		if o, j, n, e := tags.Go(m, jars, steps); o != 0 || j != [2]int{} || n != 0 || e != api.ErrArg {
			t.Error("Go", m, jars, steps, o, j, n, e)
		}
	}
	if n, e := tags.Ends(m, jars); n != 0 || e != api.ErrArg {
		t.Error("Ends", m, jars, n, e)
	}
	if c, e := tags.Circle(m, jars); c != [2]int{} || e != api.ErrArg {
		t.Error("Circle", m, jars, c, e)
	}
	for _, c := range [][2]int{{0, 1}, {1, 0}, {-1, math.MaxInt}} {
		if ok, e := tags.CheckCircle(m, jars, c); ok || e != api.ErrArg {
			t.Error("CheckCircle", m, jars, c, ok, e)
		}
	}
}

// P6.3 to P6.6: ErrArg if the machine is not valid, also where the order that is not valid is not reached.
func TestBadMachines(t *testing.T) {
	for _, m := range badMachines() {
		for _, jars := range [][2]int{{0, 0}, {2, 100}, {-1, 101}} {
			checkBadRun(t, m, jars)
		}
		for _, jar := range []int{0, 1, 2, -1} {
			if ok, e := tags.Adds(m, jar); ok || e != api.ErrArg {
				t.Error("Adds", m, jar, ok, e)
			}
		}
		if l, e := tags.Fewer(m); len(l) != 0 || e != api.ErrArg {
			t.Error("Fewer", m, l, e)
		}
	}
}

// P6.3, P6.4: ErrArg unless the jars are from 0 to 100.
func TestBadJars(t *testing.T) {
	for _, m := range chosenMachines() {
		for _, jars := range badJars() {
			checkBadRun(t, m, jars)
		}
	}
}

// P6.3: ErrArg unless steps is from 0 to 1000.
func TestBadStepsOfMachines(t *testing.T) {
	for _, m := range chosenMachines() {
		for _, steps := range outside(0, 1000) {
			if o, j, n, e := tags.Go(m, [2]int{1, 1}, steps); o != 0 || j != [2]int{} || n != 0 || e != api.ErrArg {
				t.Error(m, steps, o, j, n, e)
			}
		}
	}
}

// P6.5: ErrArg unless jar is 0 or 1.
func TestBadJarOfAdds(t *testing.T) {
	for _, m := range chosenMachines() {
		for _, jar := range outside(0, 1) {
			if ok, e := tags.Adds(m, jar); ok || e != api.ErrArg {
				t.Error(m, jar, ok, e)
			}
		}
	}
}

// P6.3 to P6.6: the largest arguments are valid.
func TestLargestMachines(t *testing.T) {
	m := make([]tags.Order, 8)
	for i := range m {
		m[i] = tags.Order{Do: 2, Jar: 1, Then: 7, Else: 7 - i}
	}
	for _, jars := range [][2]int{{0, 0}, {100, 100}, {0, 100}, {100, 0}} {
		if _, _, _, e := tags.Go(m, jars, 1000); e != api.OK {
			t.Error("Go", jars, e)
		}
		if _, e := tags.Ends(m, jars); e != api.ErrNone {
			t.Error("Ends", jars, e)
		}
		if _, e := tags.Circle(m, jars); e != api.OK {
			t.Error("Circle", jars, e)
		}
		if _, e := tags.CheckCircle(m, jars, [2]int{1000, 1000}); e != api.OK {
			t.Error("CheckCircle", jars, e)
		}
	}
	for jar := range 2 {
		if _, e := tags.Adds(m, jar); e != api.OK {
			t.Error("Adds", e)
		}
	}
	if l, e := tags.Fewer(make([]tags.Order, 8)); len(l) != 1 || e != api.OK {
		t.Error("Fewer", l, e)
	}
}
