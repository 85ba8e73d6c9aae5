package folds_test

import (
	"slices"
	"testing"

	"comfit/api"
	"comfit/folds"
)

func checkPossible(t *testing.T, pile []int) {
	t.Helper()
	if ok, e := folds.Possible(pile); !ok || e != api.OK {
		t.Error(pile, ok, e)
	}
}

// P3.9
func TestTurning(t *testing.T) {
	for _, pile := range possible() {
		turn, e := folds.Turn(pile)
		back, f := folds.Back(pile)
		if e != api.OK || f != api.OK {
			t.Fatal(pile, e, f)
		}
		checkPossible(t, turn)
		checkPossible(t, back)
		all := 1<<(len(pile)-1) - 1
		set, _ := folds.Creases(pile)
		if other, e := folds.Creases(turn); other != all-set || e != api.OK {
			t.Error(pile, set, other, e)
		}
		if again, e := folds.Turn(turn); !slices.Equal(again, pile) || e != api.OK {
			t.Error(pile, again, e)
		}
		if again, e := folds.Back(back); !slices.Equal(again, pile) || e != api.OK {
			t.Error(pile, again, e)
		}
	}
}

// P3.10
func TestOpening(t *testing.T) {
	for _, pile := range possible() {
		n := len(pile)
		if n == 1 {
			continue
		}
		open, e := folds.Open(pile)
		if e != api.OK {
			t.Fatal(pile, e)
		}
		checkPossible(t, open)
		set, _ := folds.Creases(pile)
		if other, e := folds.Creases(open); other != set&^(1<<(n-2)) || e != api.OK {
			t.Error(pile, set, other, e)
		}
	}
}

// P3.11
func TestMoving(t *testing.T) {
	for _, pile := range possible() {
		checkPossible(t, append(slices.Clone(pile[1:]), pile[0]))
	}
}

// Rule 4: no argument is changed, and a result shares no memory with one or with another result.
func TestMemory(t *testing.T) {
	old := []int{0, 2, 4, 6, 5, 3, 1}
	for _, f := range []func([]int) ([]int, api.Errno){
		folds.Turn,
		folds.Back,
		folds.Open,
		func([]int) ([]int, api.Errno) { return folds.Fold(7, 63) },
	} {
		room := make([]int, 7, 20)
		copy(room, old)
		want, _ := f(room)
		want = slices.Clone(want)
		for range 2 {
			l, e := f(room)
			if !slices.Equal(l, want) || e != api.OK {
				t.Error(l, want, e)
			}
			l = append(l, 77)
			for i := range l {
				l[i] = 99
			}
			if !slices.Equal(room, old) || slices.Contains(room[:20], 77) || slices.Contains(room[:20], 99) {
				t.Fatal(room[:20])
			}
		}
	}
	folds.Possible(old)
	folds.Cross(old)
	folds.Creases(old)
	folds.Map(1, old[:2])
	if !slices.Equal(old, []int{0, 2, 4, 6, 5, 3, 1}) {
		t.Error(old)
	}
}

// Rule 4
func TestMemoryOfLists(t *testing.T) {
	for n := 1; n <= 6; n++ {
		l, _ := folds.List(n)
		for i := range l {
			l[i] = append(l[i], 77)
			for j := range l[i] {
				l[i][j] = 99
			}
		}
		for i := range l {
			l[i][0] = i
		}
		for i, pile := range l {
			if pile[0] != i || slices.ContainsFunc(pile[1:], func(x int) bool { return x != 99 }) {
				t.Error(n, pile)
			}
		}
		if again, e := folds.List(n); !same(again, refList(n)) || e != api.OK {
			t.Error(n, again, e)
		}
	}
}
