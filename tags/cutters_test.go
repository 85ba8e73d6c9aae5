package tags_test

import (
	"strings"
	"testing"

	"comfit/api"
	"comfit/tags"
)

// P6.1, Example 1
func TestCutExamples(t *testing.T) {
	long := strings.Repeat("ab", 100)
	for _, x := range []struct {
		c    cutter
		want string
		e    api.Errno
	}{
		{cutter{2, collatz, "aaa"}, "abc", api.OK},
		{cutter{2, collatz, "abc"}, "cbc", api.OK},
		{cutter{2, collatz, "cbc"}, "caaa", api.OK},
		{cutter{2, collatz, "caaa"}, "aaaaa", api.OK},
		{cutter{2, collatz, "dabc"}, "bc", api.OK},
		// It stops with less than what is cut, whatever would be put.
		{cutter{1, collatz, ""}, "", api.ErrNone},
		{cutter{2, collatz, ""}, "", api.ErrNone},
		{cutter{2, collatz, "a"}, "", api.ErrNone},
		{cutter{3, [4]string{"aaaa", "bbbb", "cccc", "dddd"}, "ab"}, "", api.ErrNone},
		{cutter{1, collatz, "a"}, "bc", api.OK},
		{cutter{2, collatz, "ab"}, "bc", api.OK},
		{cutter{3, [4]string{"aaaa", "bbbb", "cccc", "dddd"}, "dab"}, "dddd", api.OK},
		{cutter{3, collatz, "dab"}, "", api.OK},
		// 200 letters are not too many, nor are more before they are cut.
		{cutter{1, [4]string{"aa", "", "", ""}, long[:199]}, long[1:199] + "aa", api.OK},
		{cutter{1, [4]string{"aa", "", "", ""}, long}, "", api.ErrSize},
		{cutter{1, [4]string{"dddd", "", "", ""}, long[:197]}, long[1:197] + "dddd", api.OK},
		{cutter{1, [4]string{"dddd", "", "", ""}, long[:198]}, "", api.ErrSize},
		{cutter{3, [4]string{"ddd", "", "", ""}, long}, long[3:] + "ddd", api.OK},
		{cutter{3, [4]string{"dddd", "", "", ""}, long}, "", api.ErrSize},
		{cutter{2, [4]string{"", "aaaa", "", ""}, long}, long[2:], api.OK},
	} {
		if s, e := tags.Cut(x.c.cut, x.c.strings, x.c.tape); s != x.want || e != x.e {
			t.Error(x, s, e)
		}
	}
}

// P6.1, Example 1
func TestRunExamples(t *testing.T) {
	long := strings.Repeat("a", 200)
	for _, x := range []struct {
		c     cutter
		steps int
		want  string
		done  int
		e     api.Errno
	}{
		{cutter{2, collatz, "aaa"}, 0, "aaa", 0, api.OK},
		{cutter{2, collatz, "aaa"}, 3, "caaa", 3, api.OK},
		{cutter{2, collatz, "aaa"}, 4, "aaaaa", 4, api.OK},
		{cutter{2, collatz, "aa"}, 2, "a", 2, api.OK},
		{cutter{2, collatz, "aa"}, 3, "a", 2, api.OK},
		{cutter{2, collatz, "aa"}, 1000, "a", 2, api.OK},
		{cutter{2, collatz, "a"}, 0, "a", 0, api.OK},
		{cutter{2, collatz, "a"}, 1000, "a", 0, api.OK},
		{cutter{1, collatz, ""}, 1000, "", 0, api.OK},
		{cutter{1, [4]string{}, long}, 199, "a", 199, api.OK},
		{cutter{1, [4]string{}, long}, 200, "", 200, api.OK},
		{cutter{1, [4]string{}, long}, 201, "", 200, api.OK},
		{cutter{1, [4]string{"aa", "", "", ""}, "a"}, 199, long, 199, api.OK},
		{cutter{1, [4]string{"aa", "", "", ""}, "a"}, 200, "", 0, api.ErrSize},
		{cutter{1, [4]string{"aa", "", "", ""}, "a"}, 1000, "", 0, api.ErrSize},
		{cutter{1, [4]string{"aa", "", "", ""}, long}, 0, long, 0, api.OK},
		{cutter{1, [4]string{"b", "a", "", ""}, "ab"}, 999, "aa", 999, api.OK},
		{cutter{1, [4]string{"b", "a", "", ""}, "ab"}, 1000, "ab", 1000, api.OK},
	} {
		if s, n, e := tags.Run(x.c.cut, x.c.strings, x.c.tape, x.steps); s != x.want || n != x.done || e != x.e {
			t.Error(x, s, n, e)
		}
	}
}

// P6.1
func TestCutsAndRuns(t *testing.T) {
	found := map[api.Errno]int{}
	for _, c := range cutters() {
		tapes, end := refTapes(c, 1000)
		want, wantError := "", end
		if len(tapes) > 1 {
			want, wantError = tapes[1], api.OK
		}
		if s, e := tags.Cut(c.cut, c.strings, c.tape); s != want || e != wantError {
			t.Error(c, s, e, want, wantError)
		}
		found[wantError]++
		last := len(tapes) - 1
		for _, steps := range []int{0, 1, 2, 3, 17, last - 1, last, last + 1, 999, 1000} {
			if steps < 0 || steps > 1000 {
				continue
			}
			want, done, wantError := refRun(tapes, end, steps)
			if s, n, e := tags.Run(c.cut, c.strings, c.tape, steps); s != want || n != done || e != wantError {
				t.Error(c, steps, s, n, e, want, done, wantError)
			}
		}
	}
	if found[api.OK] < 1000 || found[api.ErrNone] < 100 || found[api.ErrSize] < 20 {
		t.Error("too few of a kind", found)
	}
}

// P6.2
func TestAgainExamples(t *testing.T) {
	long := strings.Repeat("a", 200)
	for _, x := range []struct {
		c             cutter
		begin, length int
		e             api.Errno
	}{
		{cutter{1, [4]string{"b", "a", "", ""}, "ab"}, 0, 4, api.OK},
		{cutter{1, [4]string{"b", "a", "", ""}, "a"}, 0, 2, api.OK},
		{cutter{1, [4]string{"a", "", "", ""}, "ba"}, 1, 1, api.OK},
		{cutter{1, [4]string{"a", "", "", ""}, "bba"}, 2, 1, api.OK},
		{cutter{1, [4]string{"a", "", "", ""}, "a"}, 0, 1, api.OK},
		{cutter{1, [4]string{"b", "c", "d", "b"}, "a"}, 1, 3, api.OK},
		{cutter{1, [4]string{"a", "b", "", ""}, long}, 0, 1, api.OK},
		{cutter{1, [4]string{"a", "b", "", ""}, long[:199] + "b"}, 0, 200, api.OK},
		{cutter{2, collatz, "aaa"}, 0, 0, api.ErrNone},
		{cutter{2, collatz, "a"}, 0, 0, api.ErrNone},
		{cutter{1, collatz, ""}, 0, 0, api.ErrNone},
		{cutter{1, [4]string{}, long}, 0, 0, api.ErrNone},
		{cutter{1, [4]string{"aa", "", "", ""}, "a"}, 0, 0, api.ErrSize},
		{cutter{1, [4]string{"aa", "", "", ""}, long}, 0, 0, api.ErrSize},
		{cutter{1, [4]string{"a", "aa", "", ""}, long[:199] + "b"}, 0, 0, api.ErrSize},
	} {
		if b, l, e := tags.Again(x.c.cut, x.c.strings, x.c.tape); b != x.begin || l != x.length || e != x.e {
			t.Error(x, b, l, e)
		}
	}
}

// P6.2: what comes after 1000 steps counts, what comes later does not.
func TestAgainAfterManySteps(t *testing.T) {
	for _, x := range []struct {
		c             cutter
		skip          int // steps before the tape
		begin, length int
		e             api.Errno
	}{
		{cutter{2, slow, "bacb"}, 0, 0, 0, api.ErrState},
		{cutter{2, slow, "bacb"}, 18, 0, 0, api.ErrState},
		{cutter{2, slow, "bacb"}, 19, 0, 0, api.ErrNone},
		{cutter{2, slow, "bacb"}, 20, 0, 0, api.ErrNone},
		{cutter{1, wide, "abbabacb"}, 0, 0, 0, api.ErrState},
		{cutter{1, wide, "abbabacb"}, 1, 0, 0, api.ErrState},
		{cutter{1, wide, "abbabacb"}, 2, 0, 0, api.ErrSize},
		{cutter{1, wide, "abbabacb"}, 3, 0, 0, api.ErrSize},
		{cutter{3, round, "adccbbabbaac"}, 0, 0, 0, api.ErrState},
		{cutter{3, round, "adccbbabbaac"}, 1, 118, 882, api.OK},
		{cutter{3, round, "adccbbabbaac"}, 2, 117, 882, api.OK},
		{cutter{3, round, "adccbbabbaac"}, 118, 1, 882, api.OK},
		{cutter{3, round, "adccbbabbaac"}, 119, 0, 882, api.OK},
		{cutter{3, round, "adccbbabbaac"}, 500, 0, 882, api.OK},
	} {
		tape, n, e := tags.Run(x.c.cut, x.c.strings, x.c.tape, x.skip)
		if n != x.skip || e != api.OK {
			t.Fatal(x, n, e)
		}
		if b, l, e := tags.Again(x.c.cut, x.c.strings, tape); b != x.begin || l != x.length || e != x.e {
			t.Error(x, b, l, e)
		}
	}
}

// P6.2
func TestAgains(t *testing.T) {
	found := map[api.Errno]int{}
	late := 0
	for _, c := range cutters() {
		begin, length, want := refAgain(refTapes(c, 1000))
		if b, l, e := tags.Again(c.cut, c.strings, c.tape); b != begin || l != length || e != want {
			t.Error(c, b, l, e, begin, length, want)
		}
		found[want]++
		if begin > 0 && length > 1 {
			late++
		}
	}
	if found[api.OK] < 300 || found[api.ErrNone] < 1000 || found[api.ErrSize] < 300 || found[api.ErrState] < 5 || late < 100 {
		t.Error("too few of a kind", found, late)
	}
}
