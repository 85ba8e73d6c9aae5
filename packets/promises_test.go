package packets_test

import (
	"math/big"
	"testing"

	"comfit/api"
	"comfit/packets"
)

// value returns the result of a call that has to be OK.
func value(t *testing.T) func(api.Frac, api.Errno) *big.Rat {
	return func(f api.Frac, e api.Errno) *big.Rat {
		t.Helper()
		if e != api.OK || f.Den < 1 {
			t.Fatal(f, e)
		}
		return ratOf(f)
	}
}

func isOne(x *big.Rat) bool { return x.Cmp(rat(1, 1)) == 0 }

// P4.8
func TestMeansOfParts(t *testing.T) {
	is := value(t)
	for _, w := range fewWeights() {
		means := make([]*big.Rat, 1<<len(w))
		for set := range means {
			means[set] = is(packets.Mean(w, set))
		}
		for kind := range w {
			if means[1<<kind].Cmp(rat(weightOf(w, all(w)), w[kind])) != 0 {
				t.Error(w, kind, means[1<<kind])
			}
		}
		for set, mean := range means {
			for _, part := range parts(set) {
				if mean.Cmp(means[part]) < 0 {
					t.Error(w, set, part, mean)
				}
				for _, common := range parts(part) {
					if other := set&^part | common; mean.Cmp(sum(means[part], means[other])) > 0 {
						t.Error(w, set, part, other, mean)
					}
				}
			}
		}
	}
}

// P4.8
func TestMeanOfEqualWeights(t *testing.T) {
	for weight := 1; weight <= 9; weight++ {
		var w []int
		harmonic := new(big.Rat)
		for n := 1; n <= 6; n++ {
			w = append(w, weight)
			harmonic = sum(harmonic, rat(1, n))
			want := fracOf(new(big.Rat).Mul(rat(n, 1), harmonic))
			if f, e := packets.Mean(w, all(w)); f != want || e != api.OK {
				t.Error(w, f, e)
			}
		}
	}
}

// P4.9
func TestSumOfLast(t *testing.T) {
	is := value(t)
	for _, w := range someWeights() {
		for set := 1; set <= all(w); set++ {
			total := new(big.Rat)
			for _, kind := range kinds(set) {
				total = sum(total, is(packets.Last(w, set, kind)))
			}
			if !isOne(total) {
				t.Error(w, set, total)
			}
		}
	}
}

// P4.9
func TestSumOfExact(t *testing.T) {
	is := value(t)
	for _, w := range fewWeights() {
		before := make([]*big.Rat, 1<<len(w))
		for number := range 9 {
			exact := make([]*big.Rat, 1<<len(w))
			for set := range exact {
				exact[set] = is(packets.Exact(w, set, number))
			}
			if !isOne(sum(exact...)) {
				t.Error(w, number, sum(exact...))
			}
			for set := range exact {
				total := new(big.Rat)
				for other, x := range exact {
					if other&set == set {
						total = sum(total, x)
					}
				}
				done := is(packets.Done(w, set, number))
				if done.Cmp(total) != 0 {
					t.Error(w, set, number, done, total)
				}
				if number > 0 && done.Cmp(before[set]) < 0 {
					t.Error(w, set, number, done, before[set])
				}
				before[set] = done
			}
		}
	}
}

// P4.10
func TestSumOfKinds(t *testing.T) {
	is := value(t)
	for _, w := range someWeights() {
		for number := range 9 {
			total := new(big.Rat)
			for kind := range w {
				total = sum(total, is(packets.Done(w, 1<<kind, number)))
			}
			x := is(packets.Kinds(w, number))
			if x.Cmp(total) != 0 || x.Cmp(rat(len(w), 1)) > 0 || x.Cmp(rat(number, 1)) > 0 {
				t.Error(w, number, x, total)
			}
		}
	}
}

// P4.11
func TestSumOfFirst(t *testing.T) {
	is := value(t)
	for i, w := range fewWeights() {
		for a := 1; a <= all(w); a++ {
			for b := 1; b <= all(w); b++ {
				if len(w) > 4 && (a*63+b+i)%31 != 0 {
					continue
				}
				x, y := is(packets.First(w, a, b)), is(packets.First(w, b, a))
				if total := sum(x, y, refSame(w, a, b)); !isOne(total) {
					t.Error(w, a, b, x, y, total)
				}
			}
			for _, b := range parts(a) {
				if b == 0 {
					continue
				}
				if f, e := packets.First(w, a, b); f != frac(0, 1) || e != api.OK {
					t.Error(w, a, b, f, e)
				}
			}
		}
	}
}

// P4.13
func TestPairsGrow(t *testing.T) {
	is := value(t)
	for n := 1; n <= 3; n++ {
		for _, w := range allWeights(n) {
			if is(packets.Pairs(w, 0)).Cmp(is(packets.Mean(w, all(w)))) != 0 {
				t.Error(w)
			}
			for twice := range 1 << n {
				for _, kind := range kinds(all(w) &^ twice) {
					if is(packets.Pairs(w, twice)).Cmp(is(packets.Pairs(w, twice|1<<kind))) >= 0 {
						t.Error(w, twice, kind)
					}
				}
			}
		}
	}
}

// P5: renaming the kinds changes nothing.
func TestRenaming(t *testing.T) {
	for _, w := range fewWeights() {
		n := len(w)
		for turn := 1; turn < n; turn++ {
			renamed := append(append([]int(nil), w[turn:]...), w[:turn]...)
			rename := func(set int) int { return set>>turn | set<<(n-turn)&all(w) }
			for set := range 1 << n {
				f, _ := packets.Mean(w, set)
				if g, e := packets.Mean(renamed, rename(set)); g != f || e != api.OK {
					t.Error(w, turn, set, f, g, e)
				}
				for _, kind := range kinds(set) {
					f, _ := packets.Last(w, set, kind)
					if g, e := packets.Last(renamed, rename(set), (kind+n-turn)%n); g != f || e != api.OK {
						t.Error(w, turn, set, kind, f, g, e)
					}
				}
				f, _ = packets.Exact(w, set, 7)
				if g, e := packets.Exact(renamed, rename(set), 7); g != f || e != api.OK {
					t.Error(w, turn, set, f, g, e)
				}
			}
		}
	}
}
