package tags_test

import (
	"slices"
	"testing"

	"comfit/api"
	"comfit/tags"
)

// P6.3
func TestGoExamples(t *testing.T) {
	for _, x := range []struct {
		m     []tags.Order
		jars  [2]int
		steps int
		order int
		after [2]int
		done  int
	}{
		{adder, [2]int{0, 3}, 0, 0, [2]int{0, 3}, 0},
		{adder, [2]int{0, 3}, 1, 1, [2]int{0, 2}, 1},
		{adder, [2]int{0, 3}, 3, 1, [2]int{1, 1}, 3},
		{adder, [2]int{0, 3}, 6, 0, [2]int{3, 0}, 6},
		{adder, [2]int{0, 3}, 7, 2, [2]int{3, 0}, 7},
		{adder, [2]int{0, 3}, 8, 2, [2]int{3, 0}, 7},
		{adder, [2]int{100, 100}, 1000, 2, [2]int{200, 0}, 201},
		{loop, [2]int{100, 7}, 1000, 0, [2]int{1100, 7}, 1000},
		{[]tags.Order{{}}, [2]int{100, 7}, 1000, 0, [2]int{100, 7}, 0},
		{[]tags.Order{{}, {Do: 1}}, [2]int{1, 2}, 1, 0, [2]int{1, 2}, 0},
		{[]tags.Order{{Do: 1, Jar: 1, Then: 1}, {}}, [2]int{}, 1, 1, [2]int{0, 1}, 1},
		{[]tags.Order{{Do: 2, Jar: 1, Then: 1, Else: 2}, {}, {}}, [2]int{5, 0}, 9, 2, [2]int{5, 0}, 1},
		{[]tags.Order{{Do: 2, Jar: 1, Then: 1, Else: 2}, {}, {}}, [2]int{0, 5}, 9, 1, [2]int{0, 4}, 1},
	} {
		if o, j, n, e := tags.Go(x.m, x.jars, x.steps); o != x.order || j != x.after || n != x.done || e != api.OK {
			t.Error(x, o, j, n, e)
		}
	}
}

// P6.3
func TestGo(t *testing.T) {
	for i, m := range machines() {
		for _, jars := range [][2]int{someJars[i%len(someJars)], {i % 7, i % 5}} {
			l, _ := refMoments(m, jars, 1000)
			last := len(l) - 1
			for _, steps := range []int{0, 1, 2, 5, i % 1001, last, last + 1, 1000} {
				if steps > 1000 {
					continue
				}
				want := l[min(steps, last)]
				if o, j, n, e := tags.Go(m, jars, steps); o != want.order || j != want.jars || n != min(steps, last) || e != api.OK {
					t.Error(m, jars, steps, o, j, n, e, want)
				}
			}
		}
	}
}

// P6.4, Example 2
func TestEndsExamples(t *testing.T) {
	for _, x := range []struct {
		m    []tags.Order
		jars [2]int
		want int
		e    api.Errno
	}{
		{adder, [2]int{0, 3}, 7, api.OK},
		{adder, [2]int{3, 0}, 1, api.OK},
		{adder, [2]int{100, 100}, 201, api.OK},
		{odd, [2]int{}, 3, api.OK},
		{odd, [2]int{1, 0}, 1, api.OK},
		{[]tags.Order{{}}, [2]int{1, 1}, 0, api.OK},
		{loop, [2]int{}, 0, api.ErrNone},
		{late, [2]int{}, 0, api.ErrNone},
		{long, [2]int{}, 2, api.OK},
		{long, [2]int{100, 97}, 999, api.OK},
		{long, [2]int{100, 98}, 1000, api.OK},
		{long, [2]int{100, 99}, 0, api.ErrNone},
		{long, [2]int{100, 100}, 0, api.ErrNone},
	} {
		if n, e := tags.Ends(x.m, x.jars); n != x.want || e != x.e {
			t.Error(x, n, e)
		}
	}
}

// P6.4
func TestEnds(t *testing.T) {
	found := map[api.Errno]int{}
	for _, m := range machines() {
		for _, jars := range someJars {
			l, ends := refMoments(m, jars, 1000)
			want, wantError := 0, api.ErrNone
			if ends {
				want, wantError = len(l)-1, api.OK
			}
			if n, e := tags.Ends(m, jars); n != want || e != wantError {
				t.Error(m, jars, n, e, want, wantError)
			}
			found[wantError]++
		}
	}
	if found[api.OK] < 1000 || found[api.ErrNone] < 1000 {
		t.Error("too few of a kind", found)
	}
}

// P6.5, Example 2
func TestAddsExamples(t *testing.T) {
	// It moves at most 3 from jar 0.
	three := []tags.Order{
		{Do: 2, Then: 1, Else: 7}, {Do: 1, Jar: 1, Then: 2}, {Do: 2, Then: 3, Else: 7}, {Do: 1, Jar: 1, Then: 4},
		{Do: 2, Then: 5, Else: 7}, {Do: 1, Jar: 1, Then: 6}, {Do: 2, Then: 7, Else: 7}, {},
	}
	// It moves all of jar 0, but for one that holds 5 or more.
	four := []tags.Order{
		{Do: 2, Then: 1, Else: 7}, {Do: 2, Then: 2, Else: 3}, {Do: 1, Jar: 1, Then: 3}, {Do: 1, Jar: 1, Then: 4},
		{Do: 2, Then: 5, Else: 7}, {Do: 2, Then: 6, Else: 3}, {Do: 2, Then: 7, Else: 2}, {},
	}
	// It moves all to jar 0, to jar 1 and back, which takes up to 43 steps.
	twice := []tags.Order{
		{Do: 2, Jar: 1, Then: 1, Else: 2}, {Do: 1}, {Do: 2, Then: 3, Else: 4}, {Do: 1, Jar: 1, Then: 2}, {Do: 2, Jar: 1, Then: 5, Else: 6}, {Do: 1, Then: 4}, {},
	}
	for _, x := range []struct {
		m    []tags.Order
		jar  int
		want bool
	}{
		{adder, 0, true}, {adder, 1, false}, {exchanged(adder), 1, true}, {exchanged(adder), 0, false},
		{three, 0, false}, {three, 1, false}, {exchanged(three), 0, false}, {exchanged(three), 1, false},
		{four, 0, false}, {four, 1, true}, {exchanged(four), 0, true}, {exchanged(four), 1, false},
		{twice, 0, true}, {twice, 1, false}, {exchanged(twice), 0, false}, {exchanged(twice), 1, true},
		{[]tags.Order{{}}, 0, false}, {loop, 0, false}, {odd, 0, false},
		// It never ends, though it has the sum.
		{[]tags.Order{{Do: 2, Jar: 1, Then: 1, Else: 0}, {Do: 1}}, 0, false},
		{[]tags.Order{{Do: 2, Jar: 1, Then: 1, Else: 2}, {Do: 1}, {Do: 2, Jar: 1, Then: 2, Else: 2}}, 0, false},
	} {
		if ok, e := tags.Adds(x.m, x.jar); ok != x.want || e != api.OK {
			t.Error(x, ok, e)
		}
	}
}

// P6.6
func TestFewerExamples(t *testing.T) {
	for _, x := range []struct{ m, want []tags.Order }{
		{[]tags.Order{{}}, []tags.Order{{}}},
		{loop, loop}, {adder, adder}, {late, late},
		{[]tags.Order{{}, {Do: 1, Then: 0}, {}}, []tags.Order{{}}},
		{[]tags.Order{{Do: 1, Then: 2}, {Do: 1, Then: 0}, {}}, []tags.Order{{Do: 1, Then: 1}, {}}},
		{[]tags.Order{{Do: 1, Jar: 1, Then: 0}, {}}, []tags.Order{{Do: 1, Jar: 1}}},
		{[]tags.Order{{Do: 2, Jar: 1, Then: 3, Else: 1}, {Do: 1, Then: 3}, {}, {}}, []tags.Order{{Do: 2, Jar: 1, Then: 2, Else: 1}, {Do: 1, Then: 2}, {}}},
		{[]tags.Order{{Do: 2, Then: 2, Else: 2}, {}, {}}, []tags.Order{{Do: 2, Then: 1, Else: 1}, {}}},
		// Else counts, though the jar is never empty there.
		{[]tags.Order{{Do: 1, Then: 1}, {Do: 2, Then: 0, Else: 2}, {}}, []tags.Order{{Do: 1, Then: 1}, {Do: 2, Then: 0, Else: 2}, {}}},
		// By way of later orders.
		{[]tags.Order{{Do: 1, Then: 7}, {}, {Do: 1, Then: 1}, {}, {Do: 1, Then: 2}, {}, {}, {Do: 1, Then: 4}}, []tags.Order{{Do: 1, Then: 4}, {}, {Do: 1, Then: 1}, {Do: 1, Then: 2}, {Do: 1, Then: 3}}},
		{[]tags.Order{{Do: 2, Then: 7, Else: 7}, {}, {}, {}, {}, {}, {Do: 1, Then: 1}, {Do: 2, Jar: 1, Then: 7, Else: 0}}, []tags.Order{{Do: 2, Then: 1, Else: 1}, {Do: 2, Jar: 1, Then: 1, Else: 0}}},
	} {
		if l, e := tags.Fewer(x.m); !slices.Equal(l, x.want) || e != api.OK {
			t.Error(x.m, l, e)
		}
	}
}

// P6.5, P6.6
func TestAddsAndFewer(t *testing.T) {
	adding, lengths := 0, map[int]int{}
	for _, m := range slices.Concat(machines(), machinesOf(3)) {
		for jar := range 2 {
			want := refAdds(m, jar)
			if ok, e := tags.Adds(m, jar); ok != want || e != api.OK {
				t.Error(m, jar, ok, e)
			}
			if want {
				adding++
			}
		}
		l, e := tags.Fewer(m)
		if !slices.Equal(l, refFewer(m)) || e != api.OK {
			t.Error(m, l, e)
		}
		lengths[len(m)-len(l)]++
	}
	if adding < 4 || lengths[0] < 100 || lengths[1] < 100 || lengths[5] < 10 {
		t.Error("too few of a kind", adding, lengths)
	}
}
