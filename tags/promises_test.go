package tags_test

import (
	"slices"
	"testing"

	"comfit/api"
	"comfit/tags"
)

// P6.7
func TestRunsOfRuns(t *testing.T) {
	joined := 0
	for i, c := range cutters() {
		for _, a := range []int{0, 1, 5, i % 300} {
			tape, done, e := tags.Run(c.cut, c.strings, c.tape, a)
			if done != a || e != api.OK {
				continue
			}
			for _, b := range []int{0, 1, 4, i % 77, 500} {
				want, n, wantError := tags.Run(c.cut, c.strings, c.tape, a+b)
				s, m, e := tags.Run(c.cut, c.strings, tape, b)
				if wantError == api.OK {
					joined++
					m += a
				}
				if s != want || m != n || e != wantError {
					t.Error(c, a, b, s, m, e, want, n, wantError)
				}
			}
		}
	}
	if joined < 5000 {
		t.Error("too few runs", joined)
	}
}

// P6.7
func TestLengths(t *testing.T) {
	for _, c := range cutters() {
		for range 50 {
			s, e := tags.Cut(c.cut, c.strings, c.tape)
			if e != api.OK {
				break
			}
			if len(s) != len(c.tape)-c.cut+len(c.strings[c.tape[0]-'a']) {
				t.Error(c, s)
			}
			c.tape = s
		}
	}
}

// P6.8
func TestTapesThatComeAgain(t *testing.T) {
	found := 0
	for _, c := range cutters() {
		begin, length, e := tags.Again(c.cut, c.strings, c.tape)
		if e != api.OK {
			continue
		}
		found++
		came := map[string]bool{}
		for steps := range begin + length {
			s, n, e := tags.Run(c.cut, c.strings, c.tape, steps)
			if came[s] || n != steps || e != api.OK {
				t.Error(c, steps, s, n, e)
			}
			came[s] = true
		}
		first, _, _ := tags.Run(c.cut, c.strings, c.tape, begin)
		second, n, e := tags.Run(c.cut, c.strings, c.tape, begin+length)
		if first != second || n != begin+length || e != api.OK {
			t.Error(c, first, second, n, e)
		}
	}
	if found < 300 {
		t.Error("too few tapes", found)
	}
}

// P1, P6.9
func TestRunsWithCircles(t *testing.T) {
	circles, places := 0, 0
	for _, m := range machines() {
		for _, jars := range someJars {
			c, e := tags.Circle(m, jars)
			if e == api.OK {
				circles++
				if ok, e := tags.CheckCircle(m, jars, c); !ok || e != api.OK {
					t.Error(m, jars, c, ok, e)
				}
			}
			if n, ends := tags.Ends(m, jars); e == api.OK && ends != api.ErrNone {
				t.Error(m, jars, c, n, ends)
			}
			l, _ := refMoments(m, jars, 200)
			came := map[moment]bool{}
			for _, now := range l {
				if came[now] {
					places++
					if e != api.OK {
						t.Error(m, jars, e)
					}
					break
				}
				came[now] = true
			}
		}
	}
	if circles < 1000 || places < 1000 {
		t.Error("too few of a kind", circles, places)
	}
}

// P6.9
func TestRunsThatEnd(t *testing.T) {
	late := 0
	for _, m := range machines() {
		for _, jars := range someJars {
			n, e := tags.Ends(m, jars)
			if e != api.OK {
				continue
			}
			if n > 100 {
				late++
			}
			if c, e := tags.Circle(m, jars); c != [2]int{} || e != api.ErrNone {
				t.Error(m, jars, n, c, e)
			}
			for _, c := range [][2]int{{0, 1}, {0, n}, {n / 2, n}, {n - 1, n}, {n, n + 1}, {0, n + 1}} {
				if ok, e := tags.CheckCircle(m, jars, c); ok || e != api.OK {
					t.Error(m, jars, n, c, ok, e)
				}
			}
		}
	}
	if late < 50 {
		t.Error("too few late ends", late)
	}
}

// P6.10
func TestMoreInAJar(t *testing.T) {
	compared := 0
	for i, m := range machines() {
		jars := someJars[i%4]
		l, _ := refMoments(m, jars, 300)
		for jar := range 2 {
			same := len(l) - 1 // steps
			if at := slices.IndexFunc(l, func(now moment) bool { return now.empty == jar }); at >= 0 {
				same = at
			}
			more := jars
			more[jar] += i%5 + 1
			for _, steps := range []int{1, 2, 3, same / 2, same} {
				if steps > same {
					continue
				}
				order, after, done, _ := tags.Go(m, jars, steps)
				after[jar] += i%5 + 1
				if o, j, n, e := tags.Go(m, more, steps); o != order || j != after || n != done || e != api.OK {
					t.Error(m, jars, more, steps, o, j, n, e, order, after, done)
				}
				compared++
			}
		}
	}
	if compared < 5000 {
		t.Error("too few steps", compared)
	}
}

// P6.11
func TestStepsOfFewer(t *testing.T) {
	shorter := 0
	for i, m := range machines() {
		jars := someJars[i%len(someJars)]
		l, e := tags.Fewer(m)
		if e != api.OK {
			t.Fatal(m, e)
		}
		if len(l) < len(m) {
			shorter++
		}
		for _, steps := range []int{0, 1, 2, 3, 4, 5, 6, 10, i % 1001, 1000} {
			order, after, done, _ := tags.Go(m, jars, steps)
			o, j, n, e := tags.Go(l, jars, steps)
			if e != api.OK || j != after || n != done {
				t.Fatal(m, l, jars, steps, j, n, e, after, done)
			}
			if m[order].Do != l[o].Do || m[order].Jar != l[o].Jar {
				t.Error(m, l, jars, steps, order, o)
			}
		}
		want, wantError := tags.Ends(m, jars)
		if n, e := tags.Ends(l, jars); n != want || e != wantError {
			t.Error(m, l, jars, n, e, want, wantError)
		}
		if again, e := tags.Fewer(l); !slices.Equal(again, l) || e != api.OK {
			t.Error(m, l, again, e)
		}
	}
	if shorter < 1000 {
		t.Error("too few machines with orders that are not reached", shorter)
	}
}

// exchanged returns m with the jars exchanged.
func exchanged(m []tags.Order) []tags.Order {
	l := slices.Clone(m)
	for i := range l {
		if l[i].Do > 0 {
			l[i].Jar = 1 - l[i].Jar
		}
	}
	return l
}

// P5, P6.12
func TestExchange(t *testing.T) {
	for i, m := range machines() {
		x := exchanged(m)
		jars := someJars[i%len(someJars)]
		other := [2]int{jars[1], jars[0]}
		for _, steps := range []int{0, 1, 2, 7, i % 1001, 1000} {
			order, after, done, _ := tags.Go(m, jars, steps)
			if o, j, n, e := tags.Go(x, other, steps); o != order || j != [2]int{after[1], after[0]} || n != done || e != api.OK {
				t.Error(m, jars, steps, o, j, n, e)
			}
		}
		n, e := tags.Ends(m, jars)
		if k, f := tags.Ends(x, other); k != n || f != e {
			t.Error(m, jars, n, e, k, f)
		}
		c, e := tags.Circle(m, jars)
		if d, f := tags.Circle(x, other); d != c || f != e {
			t.Error(m, jars, c, e, d, f)
		}
		ok, _ := tags.CheckCircle(m, jars, [2]int{i % 7, 12})
		if same, e := tags.CheckCircle(x, other, [2]int{i % 7, 12}); same != ok || e != api.OK {
			t.Error(m, jars, ok, same, e)
		}
		adds, _ := tags.Adds(m, 0)
		if same, e := tags.Adds(x, 1); same != adds || e != api.OK {
			t.Error(m, adds, same, e)
		}
		l, _ := tags.Fewer(m)
		if k, e := tags.Fewer(x); !slices.Equal(k, exchanged(l)) || e != api.OK {
			t.Error(m, l, k, e)
		}
	}
}
