package tags_test

import (
	"math"
	"testing"

	"comfit/api"
	"comfit/tags"
)

// P6.4, Example 2
func TestCircleExamples(t *testing.T) {
	for _, x := range []struct {
		m    []tags.Order
		jars [2]int
		want [2]int
		e    api.Errno
	}{
		{loop, [2]int{}, [2]int{0, 1}, api.OK},
		{adder, [2]int{0, 3}, [2]int{}, api.ErrNone},
		{[]tags.Order{{}}, [2]int{}, [2]int{}, api.ErrNone},
		// The jar that is found empty stays so.
		{[]tags.Order{{Do: 2}}, [2]int{}, [2]int{0, 1}, api.OK},
		{[]tags.Order{{Do: 2}}, [2]int{3, 0}, [2]int{3, 4}, api.OK},
		{[]tags.Order{{Do: 2}}, [2]int{100, 0}, [2]int{100, 101}, api.OK},
		// It is found empty, but has one more the next time.
		{[]tags.Order{{Do: 2, Then: 0, Else: 1}, {Do: 1}}, [2]int{}, [2]int{0, 3}, api.OK},
		{odd, [2]int{}, [2]int{}, api.ErrNone},
		// One jar is found empty, and the other one gets more.
		{[]tags.Order{{Do: 1, Jar: 1, Then: 1}, {Do: 2}}, [2]int{}, [2]int{0, 2}, api.OK},
		{[]tags.Order{{Do: 1, Jar: 0, Then: 1}, {Do: 2, Jar: 1}}, [2]int{}, [2]int{0, 2}, api.OK},
		// It gets less in one jar, and more in the other one, until it is empty.
		{[]tags.Order{{Do: 2, Jar: 0, Then: 1, Else: 1}, {Do: 1, Jar: 1}}, [2]int{2, 0}, [2]int{3, 5}, api.OK},
		{[]tags.Order{{Do: 2, Jar: 1, Then: 1, Else: 1}, {Do: 1, Jar: 0}}, [2]int{0, 2}, [2]int{3, 5}, api.OK},
		// It would end if there were less in a jar.
		{[]tags.Order{{Do: 2, Then: 1, Else: 2}, {Do: 1, Then: 0}, {}}, [2]int{1, 0}, [2]int{0, 2}, api.OK},
		{[]tags.Order{{Do: 2, Then: 1, Else: 2}, {Do: 1, Then: 0}, {}}, [2]int{0, 0}, [2]int{}, api.ErrNone},
		// The last step that counts.
		{late, [2]int{98, 0}, [2]int{197, 198}, api.OK},
		{late, [2]int{99, 0}, [2]int{199, 200}, api.OK},
		{late, [2]int{100, 0}, [2]int{}, api.ErrNone},
		{later, [2]int{98, 0}, [2]int{198, 199}, api.OK},
		{later, [2]int{99, 0}, [2]int{}, api.ErrNone},
	} {
		if c, e := tags.Circle(x.m, x.jars); c != x.want || e != x.e {
			t.Error(x, c, e)
		}
	}
}

// P6.4
func TestCheckCircleExamples(t *testing.T) {
	for _, x := range []struct {
		m    []tags.Order
		jars [2]int
		c    [2]int
		want bool
	}{
		{loop, [2]int{}, [2]int{0, 1}, true}, {loop, [2]int{}, [2]int{3, 17}, true},
		{loop, [2]int{}, [2]int{1, 0}, false}, {loop, [2]int{}, [2]int{0, 0}, false}, {loop, [2]int{}, [2]int{5, 5}, false},
		// j may be at most 1000.
		{loop, [2]int{}, [2]int{0, 1000}, true}, {loop, [2]int{}, [2]int{999, 1000}, true},
		{loop, [2]int{}, [2]int{0, 1001}, false}, {loop, [2]int{}, [2]int{1000, 1001}, false}, {loop, [2]int{}, [2]int{1000, 1000}, false},
		{loop, [2]int{}, [2]int{-1, 1}, false}, {loop, [2]int{}, [2]int{-2, -1}, false}, {loop, [2]int{}, [2]int{math.MinInt, math.MaxInt}, false},
		{loop, [2]int{}, [2]int{0, math.MaxInt}, false}, {loop, [2]int{}, [2]int{math.MinInt, 0}, false}, {loop, [2]int{}, [2]int{math.MaxInt, math.MinInt}, false},
		{loop, [2]int{}, [2]int{math.MaxInt - 1, math.MaxInt}, false}, {loop, [2]int{}, [2]int{math.MinInt, math.MinInt + 1}, false},
		// Steps behind the end are not done.
		{[]tags.Order{{}}, [2]int{}, [2]int{0, 1}, false}, {[]tags.Order{{}}, [2]int{}, [2]int{0, 0}, false},
		{adder, [2]int{0, 3}, [2]int{7, 8}, false}, {adder, [2]int{0, 3}, [2]int{0, 2}, false}, {adder, [2]int{0, 3}, [2]int{8, 9}, false},
		// The jars.
		{odd, [2]int{}, [2]int{0, 2}, false},
		{[]tags.Order{{Do: 2}}, [2]int{2, 0}, [2]int{2, 3}, true},
		{[]tags.Order{{Do: 2}}, [2]int{2, 0}, [2]int{1, 2}, false},
		{[]tags.Order{{Do: 2}}, [2]int{2, 0}, [2]int{2, 1000}, true},
		{[]tags.Order{{Do: 1, Jar: 1, Then: 1}, {Do: 2}}, [2]int{}, [2]int{0, 2}, true},
		{[]tags.Order{{Do: 1, Jar: 1, Then: 1}, {Do: 2}}, [2]int{}, [2]int{0, 3}, false}, // another order
		{[]tags.Order{{Do: 1, Jar: 1, Then: 1}, {Do: 2}}, [2]int{}, [2]int{1, 3}, true},
		// Found empty before i, or in the middle.
		{[]tags.Order{{Do: 2, Then: 1, Else: 1}, {Do: 1, Then: 2}, {Do: 1, Then: 1}}, [2]int{}, [2]int{1, 3}, true},
		{[]tags.Order{{Do: 1, Jar: 1, Then: 1}, {Do: 2, Then: 2, Else: 2}, {Do: 1, Then: 0}}, [2]int{}, [2]int{0, 3}, false},
		{[]tags.Order{{Do: 1, Jar: 1, Then: 1}, {Do: 2, Then: 2, Else: 2}, {Do: 1, Then: 0}}, [2]int{}, [2]int{3, 6}, true},
		{[]tags.Order{{Do: 1, Jar: 1, Then: 1}, {Do: 2, Then: 2, Else: 2}, {Do: 1, Then: 0}}, [2]int{}, [2]int{0, 6}, false},
		// Found empty by the last step before j.
		{[]tags.Order{{Do: 1, Jar: 0, Then: 1}, {Do: 2, Jar: 1, Then: 0, Else: 0}}, [2]int{}, [2]int{0, 2}, true},
	} {
		if ok, e := tags.CheckCircle(x.m, x.jars, x.c); ok != x.want || e != api.OK {
			t.Error(x, ok, e)
		}
	}
}

// P6.4, P6.9
func TestCircles(t *testing.T) {
	found := map[api.Errno]int{}
	for _, m := range machines() {
		for _, jars := range someJars {
			l, _ := refMoments(m, jars, 200)
			circles := refCircles(l)
			want, wantError := [2]int{}, api.ErrNone
			if len(circles) > 0 {
				want, wantError = circles[0], api.OK
			}
			if c, e := tags.Circle(m, jars); c != want || e != wantError {
				t.Error(m, jars, c, e, want, wantError)
			}
			found[wantError]++
			for _, c := range circles {
				if ok, e := tags.CheckCircle(m, jars, c); !ok || e != api.OK {
					t.Error(m, jars, c, ok, e)
				}
			}
		}
	}
	if found[api.OK] < 1000 || found[api.ErrNone] < 1000 {
		t.Error("too few of a kind", found)
	}
}

// P6.4: every pair of a few steps.
func TestPairs(t *testing.T) {
	circles := 0
	for i, m := range machines() {
		if i%17 > 0 { // to save time
			continue
		}
		jars := [2]int{i / 17 % 3, i / 51 % 3}
		l, _ := refMoments(m, jars, 1000)
		for i := -1; i <= 9; i++ {
			for j := -1; j <= 9; j++ {
				want := refIsCircle(l, i, j)
				if ok, e := tags.CheckCircle(m, jars, [2]int{i, j}); ok != want || e != api.OK {
					t.Error(m, jars, i, j, ok, e)
				}
				if want {
					circles++
				}
			}
		}
	}
	if circles < 1000 {
		t.Error("too few circles", circles)
	}
}

// P6.4: pairs of many steps.
func TestDistantPairs(t *testing.T) {
	d := &dice{9}
	circles := 0
	for _, m := range machines() {
		jars := someJars[d.from(0, len(someJars)-1)]
		l, _ := refMoments(m, jars, 1000)
		for range 6 {
			i := d.from(0, 1000)
			c := [2]int{i, d.from(i, 1002)}
			want := refIsCircle(l, c[0], c[1])
			if ok, e := tags.CheckCircle(m, jars, c); ok != want || e != api.OK {
				t.Error(m, jars, c, ok, e)
			}
			if want {
				circles++
			}
		}
	}
	if circles < 1000 {
		t.Error("too few circles", circles)
	}
}
