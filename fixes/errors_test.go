package fixes_test

import (
	"slices"
	"testing"

	"comfit/api"
	"comfit/fixes"
)

func isNone(w fixes.Works) bool { return len(w.Next) == 0 && len(w.Marks) == 0 }

// checkBadPair holds the functions of two states against ErrArg.
func checkBadPair(t *testing.T, w fixes.Works, s, u int) {
	t.Helper()
	if ok, e := fixes.Alike(w, s, u); ok || e != api.ErrArg {
		t.Error("Alike", w, s, u, ok, e)
	}
	if f, e := fixes.Tell(w, s, u); f != "" || e != api.ErrArg {
		t.Error("Tell", w, s, u, f, e)
	}
	for _, f := range []string{"0", "-0", "t", "", "x", "mxx"} {
		if d, ok, e := fixes.CheckTell(w, s, u, f); d != 0 || ok || e != api.ErrArg {
			t.Error("CheckTell", w, s, u, f, d, ok, e)
		}
	}
}

// checkBadSet holds the functions of a set against ErrArg.
func checkBadSet(t *testing.T, w fixes.Works, set int) {
	t.Helper()
	if s, e := fixes.Reach(w, set); s != 0 || e != api.ErrArg {
		t.Error("Reach", w, set, s, e)
	}
	if s, e := fixes.Always(w, set); s != 0 || e != api.ErrArg {
		t.Error("Always", w, set, s, e)
	}
}

// P8.1, P8.3 to P8.7: ErrArg if the works is not valid, also where another argument is not, or where a formula is none.
func TestBadWorks(t *testing.T) {
	for _, w := range badWorks() {
		for _, f := range []string{"t", "mxx", "0", "", "x", "<<", longTexts()[0]} {
			if s, e := fixes.Holds(w, f); s != 0 || e != api.ErrArg {
				t.Error("Holds", w, f, s, e)
			}
			if n, e := fixes.Steps(w, f); n != 0 || e != api.ErrArg {
				t.Error("Steps", w, f, n, e)
			}
		}
		if l, e := fixes.Classes(w); len(l) != 0 || e != api.ErrArg {
			t.Error("Classes", w, l, e)
		}
		if q, e := fixes.Quotient(w); !isNone(q) || e != api.ErrArg {
			t.Error("Quotient", w, q, e)
		}
		checkBadPair(t, w, 0, 0)
		checkBadPair(t, w, 0, 1)
		checkBadPair(t, w, -1, 99)
		for _, set := range []int{0, 1, -1, 63, 1 << 40} {
			checkBadSet(t, w, set)
		}
	}
}

// P8.4, P8.5: ErrArg unless s and t are states.
func TestBadStates(t *testing.T) {
	for _, w := range chosenWorks() {
		for _, bad := range outside(0, len(w.Next)-1) {
			checkBadPair(t, w, bad, bad)
			checkBadPair(t, w, bad, bad+1)
			for s := range w.Next {
				checkBadPair(t, w, bad, s)
				checkBadPair(t, w, s, bad)
			}
		}
	}
}

// P8.7: ErrArg unless set is a set of states.
func TestBadSets(t *testing.T) {
	for _, w := range chosenWorks() {
		for _, bad := range outside(0, everything(w)) {
			checkBadSet(t, w, bad)
		}
	}
}

// P8.1 to P8.3: ErrForm if a string is no formula.
func TestBadFormulas(t *testing.T) {
	for _, text := range slices.Concat(noFormulas(), longTexts()) {
		if s, e := fixes.Not(text); s != "" || e != api.ErrForm {
			t.Error("Not", text, s, e)
		}
		for _, w := range chosenWorks() {
			if s, e := fixes.Holds(w, text); s != 0 || e != api.ErrForm {
				t.Error("Holds", w, text, s, e)
			}
			if n, e := fixes.Steps(w, text); n != 0 || e != api.ErrForm {
				t.Error("Steps", w, text, n, e)
			}
		}
	}
}

// P8.3: ErrForm also unless the formula begins with m or g.
func TestStepsOfOtherFormulas(t *testing.T) {
	d := &dice{12}
	others := 0
	for i := range 4000 {
		f := d.formula(i%40+1, "0123", "")
		if f[0] == 'm' || f[0] == 'g' {
			continue
		}
		others++
		if n, e := fixes.Steps(line, f); n != 0 || e != api.ErrForm {
			t.Error(f, n, e)
		}
	}
	if others < 1000 {
		t.Error("too few formulas", others)
	}
}

// P8.1, P8.3 to P8.7: the largest arguments are valid.
func TestLargestWorks(t *testing.T) {
	w := fixes.Works{Next: []int{63, 63, 63, 63, 63, 63}, Marks: []int{15, 15, 15, 15, 15, 14}}
	for _, f := range chosenFormulas() {
		if _, e := fixes.Holds(w, f); e != api.OK {
			t.Error("Holds", f, e)
		}
	}
	if n, e := fixes.Steps(w, "mx"+longTexts()[0][:37]+"0"); n != 2 || e != api.OK {
		t.Error("Steps", n, e)
	}
	if l, e := fixes.Classes(w); !slices.Equal(l, []int{31, 32}) || e != api.OK {
		t.Error("Classes", l, e)
	}
	if ok, e := fixes.Alike(w, 5, 4); ok || e != api.OK {
		t.Error("Alike", ok, e)
	}
	if f, e := fixes.Tell(w, 5, 4); f == "" || e != api.OK {
		t.Error("Tell", f, e)
	}
	if d, ok, e := fixes.CheckTell(w, 5, 4, "-0"); d != 0 || !ok || e != api.OK {
		t.Error("CheckTell", d, ok, e)
	}
	if q, e := fixes.Quotient(w); len(q.Next) != 2 || e != api.OK {
		t.Error("Quotient", q, e)
	}
	if s, e := fixes.Reach(w, 63); s != 63 || e != api.OK {
		t.Error("Reach", s, e)
	}
	if s, e := fixes.Always(w, 63); s != 63 || e != api.OK {
		t.Error("Always", s, e)
	}
}
