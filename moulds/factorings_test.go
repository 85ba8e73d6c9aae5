package moulds_test

import (
	"slices"
	"testing"

	"comfit/api"
	"comfit/moulds"
)

// P7.4, P7.5, Example 1
func TestFactorExamples(t *testing.T) {
	for _, x := range []struct {
		s       string
		factor  [4]int
		factors int
		vectors [2]point
		e       api.Errno
	}{
		{"ruld", [4]int{0, 1, 1, 0}, 4, [2]point{{1, 1}, {0, 1}}, api.OK},
		{"uldr", [4]int{0, 1, 1, 0}, 4, [2]point{{-1, 1}, {-1, 0}}, api.OK},
		{"rrulld", [4]int{0, 1, 1, 1}, 10, [2]point{{2, 0}, {1, 1}}, api.OK},
		{"lddruu", [4]int{0, 1, 1, 1}, 10, [2]point{{-1, -1}, {0, -2}}, api.OK},
		{"rrululdd", [4]int{1, 1, 1, 2}, 6, [2]point{{1, 1}, {-1, 2}}, api.OK}, // no factoring begins at its beginning
		{"rurululdldrd", [4]int{0, 3, 3, 0}, 8, [2]point{{1, 3}, {-1, 2}}, api.OK},
		{box(6, 6), [4]int{0, 1, 5, 6}, 64, [2]point{{6, 0}, {5, 6}}, api.OK},
		{"rrruuldluldd", [4]int{}, 0, [2]point{}, api.ErrNone},
		{"ddllldrrrruuuullllddrurr", [4]int{}, 0, [2]point{}, api.ErrNone},
	} {
		if f, e := moulds.Factor(x.s); f != x.factor || e != x.e {
			t.Error("Factor", x.s, f, e)
		}
		if n, e := moulds.Factors(x.s); n != x.factors || e != api.OK {
			t.Error("Factors", x.s, n, e)
		}
		if v, e := moulds.Vectors(x.s); v != x.vectors || e != x.e {
			t.Error("Vectors", x.s, v, e)
		}
	}
}

// P7.4, P7.5
func TestFactorings(t *testing.T) {
	found := map[api.Errno]int{}
	beginnings := map[bool]int{}
	for _, s := range slices.Concat(outlines(), outlinesOf(12, ""), firstOutlines(14)) {
		l := refFactorings(s)
		want, vectors, wantError := [4]int{}, [2]point{}, api.ErrNone
		if len(l) > 0 {
			want, wantError = l[0], api.OK
			turn := s[want[0]:] + s[:want[0]]
			vectors = [2]point{refSum(turn[:want[1]+want[2]]), refSum(turn[want[1] : want[1]+want[2]+want[3]])}
			beginnings[want[0] == 0]++
		}
		if f, e := moulds.Factor(s); f != want || e != wantError {
			t.Error("Factor", s, f, e, want, wantError)
		}
		if n, e := moulds.Factors(s); n != len(l) || e != api.OK {
			t.Error("Factors", s, n, e, len(l))
		}
		if v, e := moulds.Vectors(s); v != vectors || e != wantError {
			t.Error("Vectors", s, v, e, vectors, wantError)
		}
		found[wantError]++
	}
	if found[api.OK] < 500 || found[api.ErrNone] < 500 || beginnings[true] < 100 || beginnings[false] < 100 {
		t.Error("too few of a kind", found, beginnings)
	}
}
