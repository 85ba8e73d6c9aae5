package fixes_test

import (
	"slices"
	"strings"
	"testing"

	"comfit/api"
	"comfit/fixes"
)

// checkTold holds a formula of Tell against its depth and what it is to tell apart, without CheckTell.
func checkTold(t *testing.T, w fixes.Works, s, u int, formula string, depth int) {
	t.Helper()
	if formula == "" || len(formula) > 4000 || strings.Trim(formula, "0123tf-&|<[") != "" {
		t.Error("no such formula:", w, s, u, formula)
		return
	}
	told, rest := refTree(formula)
	if rest != "" || refDeep(told) != depth || told.text() != formula {
		t.Error(w, s, u, formula, rest, depth)
	}
	if where := refWhere(w, told, nil); !contains(where, s) || contains(where, u) {
		t.Error(w, s, u, formula, where)
	}
}

// P8.5, Example 2
func TestTellExamples(t *testing.T) {
	chain := fixes.Works{Next: []int{2, 4, 8, 16, 32, 0}, Marks: []int{0, 0, 0, 0, 0, 0}}
	ring := fixes.Works{Next: []int{2, 4, 8, 16, 32, 1}, Marks: []int{0, 0, 0, 0, 0, 1}}
	for _, x := range []struct {
		w    fixes.Works
		s, u int
		want int
	}{
		{line, 1, 0, 1}, {line, 2, 0, 0}, {line, 2, 1, 0},
		{fixes.Works{Next: []int{0, 0}, Marks: []int{3, 5}}, 0, 1, 0},
		{fixes.Works{Next: []int{0, 0}, Marks: []int{15, 7}}, 0, 1, 0},
		{fixes.Works{Next: []int{0, 1}, Marks: []int{3, 3}}, 0, 1, 1},
		{chain, 0, 1, 5}, {chain, 0, 2, 4}, {chain, 0, 5, 1}, {chain, 3, 4, 2}, {chain, 4, 5, 1},
		{ring, 0, 1, 4}, {ring, 1, 2, 3}, {ring, 3, 4, 1}, {ring, 4, 5, 0},
		// From 0 one may also go to 3, which can't go to 5 as 2 can: and it is only there that there is a next state.
		{fixes.Works{Next: []int{12, 4, 48, 16, 0, 32}, Marks: []int{0, 0, 1, 1, 3, 3}}, 0, 1, 3},
	} {
		// What tells s apart from u tells u apart from s, exchanged: so the depth is the same.
		for _, pair := range [][2]int{{x.s, x.u}, {x.u, x.s}} {
			f, e := fixes.Tell(x.w, pair[0], pair[1])
			if e != api.OK {
				t.Error(x, pair, f, e)
			}
			checkTold(t, x.w, pair[0], pair[1], f, x.want)
		}
	}
	for _, w := range []fixes.Works{line, chain, ring} {
		for s := range w.Next {
			if f, e := fixes.Tell(w, s, s); f != "" || e != api.ErrNone {
				t.Error(w, s, f, e)
			}
		}
	}
	if f, e := fixes.Tell(fixes.Works{Next: []int{2, 1, 4}, Marks: []int{1, 1, 1}}, 0, 2); f != "" || e != api.ErrNone {
		t.Error(f, e)
	}
}

// P8.5
func TestTell(t *testing.T) {
	found := map[int]int{}
	for _, w := range works() {
		families := refFamilies(w)
		for s := range w.Next {
			for u := range w.Next {
				depth := refDepth(families, s, u)
				found[depth]++
				f, e := fixes.Tell(w, s, u)
				if depth < 0 {
					if f != "" || e != api.ErrNone {
						t.Error(w, s, u, f, e)
					}
					continue
				}
				if e != api.OK {
					t.Error(w, s, u, f, e, depth)
					continue
				}
				checkTold(t, w, s, u, f, depth)
				if d, ok, e := fixes.CheckTell(w, s, u, f); d != depth || !ok || e != api.OK {
					t.Error(w, s, u, f, d, ok, e, depth)
				}
			}
		}
	}
	if found[-1] < 1000 || found[0] < 1000 || found[1] < 1000 || found[2] < 500 || found[3] < 30 || found[4] < 10 || found[5] < 2 {
		t.Error("too few of a kind", found)
	}
}

// P8.5
func TestCheckTellExamples(t *testing.T) {
	for _, x := range []struct {
		s, u  int
		f     string
		depth int
		ok    bool
	}{
		{1, 0, "<0", 1, true}, {1, 0, "[0", 1, true}, {0, 1, "<-0", 1, true}, {2, 0, "0", 0, true}, {2, 1, "0", 0, true}, {0, 2, "-0", 0, true}, {0, 2, "|f-0", 0, true},
		// The depth is that of the formula, however it is used, and not the least one.
		{1, 0, "&<0t", 1, true}, {1, 0, "|<0<<f", 2, true}, {1, 0, "&<0<[<t", 3, true}, {2, 0, "|0&<<0f", 2, true}, {2, 0, "&<<t&0[[[t", 3, true}, {2, 0, "||0f&<<<<f[t", 4, true},
		// Of 4,000 bytes, and of more.
		{2, 0, strings.Repeat("&t", 1999) + "0", 0, true}, {0, 2, strings.Repeat("|f", 1999) + "-0", 0, true}, {0, 2, strings.Repeat("|f", 1999) + "[-0", 0, false},
		{2, 0, "&0" + strings.Repeat("<", 3997) + "0", 3997, true}, {2, 0, "&0" + strings.Repeat("[", 3997) + "t", 3997, true},
		{2, 0, "&0" + strings.Repeat("<", 3998) + "0", 0, false}, {2, 0, "|0" + strings.Repeat("<", 3995) + "&0f", 3995, true}, {2, 0, "|0" + strings.Repeat("<", 3996) + "&0f", 0, false},
		{2, 0, strings.Repeat("&t", 1<<16) + "0", 0, false},
		// It holds at both, at none, or at the other one.
		{1, 0, "t", 0, false}, {1, 0, "f", 0, false}, {1, 0, "<-0", 0, false}, {1, 0, "-0", 0, false}, {0, 1, "<0", 0, false}, {1, 2, "<0", 0, false},
		{0, 0, "-0", 0, false}, {0, 0, "t", 0, false}, {0, 0, "0", 0, false},
		// It would tell them apart if there were no fixed point.
		{2, 0, "gx&0<x", 0, false}, {2, 0, "mx|0f", 0, false}, {2, 0, "mx0", 0, false}, {2, 0, "&0gxt", 0, false}, {2, 0, "&0mxx", 0, false}, {2, 0, "|0gx<x", 0, false},
	} {
		if d, ok, e := fixes.CheckTell(line, x.s, x.u, x.f); d != x.depth || ok != x.ok || e != api.OK {
			t.Error(x.s, x.u, len(x.f), x.f[:min(len(x.f), 50)], d, ok, e)
		}
	}
}

// P8.5: what is no formula tells nothing apart, and is no error.
func TestCheckTellOfNoFormula(t *testing.T) {
	for _, text := range slices.Concat(noFormulas(), []string{"&0x", "|0x", "0x", "0m", "&0", "x", strings.Repeat("&", 1<<20), strings.Repeat("<", 4000)}) {
		for _, pair := range [][2]int{{2, 0}, {0, 2}, {1, 1}} {
			if d, ok, e := fixes.CheckTell(line, pair[0], pair[1], text); d != 0 || ok || e != api.OK {
				t.Error(text[:min(len(text), 50)], pair, d, ok, e)
			}
		}
	}
}

// P8.5: any formulas.
func TestCheckTell(t *testing.T) {
	d := &dice{11}
	found := map[bool]int{}
	for i, w := range works() {
		f := d.plain(i%30 + 1)
		if i%50 == 0 {
			f = d.plain(d.from(41, 4000))
		}
		told, _ := refTree(f)
		where, deep := refWhere(w, told, nil), refDeep(told)
		for s := range w.Next {
			for u := range w.Next {
				want := contains(where, s) && !contains(where, u)
				depth := 0
				if want {
					depth = deep
				}
				if d, ok, e := fixes.CheckTell(w, s, u, f); d != depth || ok != want || e != api.OK {
					t.Error(w, s, u, f, d, ok, e)
				}
				found[want]++
			}
		}
		if i%7 > 0 {
			continue
		}
		f = d.formula(i%40+1, "0123", "")
		if strings.ContainsAny(f, "mg") {
			for s := range w.Next {
				if d, ok, e := fixes.CheckTell(w, s, 0, f); d != 0 || ok || e != api.OK {
					t.Error(w, s, f, d, ok, e)
				}
			}
		}
	}
	if found[true] < 1000 || found[false] < 1000 {
		t.Error("too few of a kind", found)
	}
}
