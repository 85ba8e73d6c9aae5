package fixes_test

import (
	"math/bits"
	"slices"
	"strings"
	"testing"

	"comfit/api"
	"comfit/fixes"
)

// P8.8
func TestOpposites(t *testing.T) {
	compared := 0
	formulas := slices.Concat(chosenFormulas(), drawnFormulas(13, 3000, "0123"))
	all := works()
	for i, f := range formulas {
		not, e := fixes.Not(f)
		if e != api.OK {
			continue
		}
		if twice, e := fixes.Not(not); twice != f || e != api.OK {
			t.Error(f, not, twice, e)
		}
		for k := range 10 {
			w := all[(10*i+k)%len(all)]
			states, e := fixes.Holds(w, f)
			others, g := fixes.Holds(w, not)
			if states&others != 0 || states|others != everything(w) || e != api.OK || g != api.OK {
				t.Error(w, f, states, e, not, others, g)
			}
			compared++
		}
	}
	if compared < 10000 {
		t.Error("too few formulas", compared)
	}
}

// withMark returns a works where mark 3 is in just the states of a set.
func withMark(w fixes.Works, set int) fixes.Works {
	w = cloned(w)
	for s := range w.Marks {
		w.Marks[s] = w.Marks[s]&7 + set>>s&1*8
	}
	return w
}

// checkFixed holds the set of m x or g x with a formula against all sets with which the formula holds there. The sets are asked for as mark 3.
func checkFixed(t *testing.T, w fixes.Works, sign byte, within string) int {
	t.Helper()
	states, e := fixes.Holds(w, string(rune(sign))+"x"+within)
	if e != api.OK {
		t.Fatal(w, within, e)
	}
	number := 0
	f := strings.ReplaceAll(within, "x", "3")
	for set := range everything(w) + 1 {
		there, e := fixes.Holds(withMark(w, set), f)
		if e != api.OK {
			t.Fatal(w, f, e)
		}
		if set == states && there != set {
			t.Error("not fixed:", w, within, set, there)
		}
		if there != set {
			continue
		}
		number++
		if sign == 'm' && !isPart(states, set) || sign == 'g' && !isPart(set, states) {
			t.Error("another set:", w, string(rune(sign)), within, states, set)
		}
	}
	return number
}

// P8.9, P8.13
func TestFixedPoints(t *testing.T) {
	several, apart := 0, 0
	all := works()
	for i, f := range fixedFormulas(14, 1500, "00012") {
		if strings.ContainsAny(f, "3") || f[1] != 'x' {
			continue
		}
		for k := range 4 {
			w := withMark(all[(i+k*997)%len(all)], 0)
			if checkFixed(t, w, 'm', f[2:]) > 1 {
				several++
			}
			checkFixed(t, w, 'g', f[2:])
			small, e := fixes.Holds(w, "m"+f[1:])
			great, g := fixes.Holds(w, "g"+f[1:])
			if !isPart(small, great) || e != api.OK || g != api.OK {
				t.Error(w, f, small, e, great, g)
			}
			if small != great {
				apart++
			}
		}
	}
	if several < 500 || apart < 500 {
		t.Error("too few of a kind", several, apart)
	}
}

// P8.9
func TestReachAndAlwaysByFormulas(t *testing.T) {
	checked := 0
	for _, w := range works() {
		for k := range 4 {
			set := 0
			for s, marks := range w.Marks {
				set += marks >> k & 1 << s
			}
			digit := string(rune('0' + k))
			reach, e := fixes.Reach(w, set)
			if states, g := fixes.Holds(w, "mx|"+digit+"<x"); states != reach || e != api.OK || g != api.OK {
				t.Error(w, k, reach, e, states, g)
			}
			always, e := fixes.Always(w, set)
			if states, g := fixes.Holds(w, "gx&"+digit+"<x"); states != always || e != api.OK || g != api.OK {
				t.Error(w, k, always, e, states, g)
			}
			if set > 0 && reach != set && always > 0 && always != set {
				checked++
			}
		}
	}
	if checked < 200 {
		t.Error("too few sets", checked)
	}
}

// P8.10
func TestEqualStatesAgree(t *testing.T) {
	equal, others := 0, 0
	formulas := drawnFormulas(15, 600, "0000123")
	for i, w := range works() {
		for s := range w.Next {
			for u := range w.Next {
				alike, e := fixes.Alike(w, s, u)
				if e != api.OK {
					t.Fatal(w, s, u, e)
				}
				if !alike {
					others++
					f, e := fixes.Tell(w, s, u)
					if _, ok, g := fixes.CheckTell(w, s, u, f); !ok || e != api.OK || g != api.OK {
						t.Error(w, s, u, f, ok, e, g)
					}
					continue
				}
				if s >= u {
					continue
				}
				equal++
				for k := range 10 {
					f := formulas[(10*i+k)%len(formulas)]
					if states, e := fixes.Holds(w, f); states>>s&1 != states>>u&1 || e != api.OK {
						t.Error(w, s, u, f, states, e)
					}
				}
			}
		}
	}
	if equal < 1000 || others < 1000 {
		t.Error("too few of a kind", equal, others)
	}
}

// P8.11
func TestQuotientsHoldTheSame(t *testing.T) {
	smaller := 0
	formulas := drawnFormulas(16, 800, "0000123")
	for i, w := range works() {
		q, e := fixes.Quotient(w)
		if e != api.OK {
			t.Fatal(w, e)
		}
		l, e := fixes.Classes(q)
		if len(l) != len(q.Next) || slices.ContainsFunc(l, func(class int) bool { return bits.OnesCount(uint(class)) != 1 }) || e != api.OK {
			t.Error(w, q, l, e)
		}
		classes, _ := fixes.Classes(w)
		if len(classes) < len(w.Next) {
			smaller++
		}
		for k := range 10 {
			f := formulas[(10*i+k)%len(formulas)]
			states, _ := fixes.Holds(w, f)
			there, e := fixes.Holds(q, f)
			want := 0
			for class, members := range classes {
				if there>>class&1 == 1 {
					want |= members
				}
			}
			if states != want || e != api.OK {
				t.Error(w, q, f, states, there, e)
			}
		}
	}
	if smaller < 1000 {
		t.Error("too few works with equal states", smaller)
	}
}

// P8.12
func TestMostSteps(t *testing.T) {
	most := 0
	formulas := fixedFormulas(17, 1000, "0000123")
	for i, w := range works() {
		for k := range 20 {
			f := formulas[(20*i+k)%len(formulas)]
			n, e := fixes.Steps(w, f)
			if n < 1 || n > len(w.Next)+1 || e != api.OK {
				t.Error(w, f, n, e)
			}
			if n == len(w.Next)+1 {
				most++
			}
		}
	}
	if most < 500 {
		t.Error("too few formulas with so many steps", most)
	}
}

// renamed returns a works with state s called names[s].
func renamed(w fixes.Works, names []int) fixes.Works {
	v := fixes.Works{Next: make([]int, len(names)), Marks: make([]int, len(names))}
	for s, name := range names {
		v.Next[name], v.Marks[name] = renamedSet(w.Next[s], names), w.Marks[s]
	}
	return v
}

func renamedSet(set int, names []int) int {
	states := 0
	for s, name := range names {
		states |= set >> s & 1 << name
	}
	return states
}

// P5: renaming the states changes nothing.
func TestRenaming(t *testing.T) {
	d := &dice{18}
	formulas := drawnFormulas(19, 900, "0000123")
	for i, w := range works() {
		var names []int
		for s := range w.Next {
			names = slices.Insert(names, d.from(0, s), s)
		}
		v := renamed(w, names)
		f := formulas[i%len(formulas)]
		states, _ := fixes.Holds(w, f)
		if there, e := fixes.Holds(v, f); there != renamedSet(states, names) || e != api.OK {
			t.Error(w, names, f, states, there, e)
		}
		s, u := d.from(0, len(names)-1), d.from(0, len(names)-1)
		alike, _ := fixes.Alike(w, s, u)
		if ok, e := fixes.Alike(v, names[s], names[u]); ok != alike || e != api.OK {
			t.Error(w, names, s, u, ok, e)
		}
		told, e := fixes.Tell(w, s, u)
		if e != api.OK {
			continue
		}
		depth, _, _ := fixes.CheckTell(w, s, u, told)
		if deep, ok, e := fixes.CheckTell(v, names[s], names[u], told); deep != depth || !ok || e != api.OK {
			t.Error(w, names, s, u, told, deep, ok, e)
		}
	}
}
