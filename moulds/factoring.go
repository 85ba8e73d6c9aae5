package moulds

import "iter"

// factorings yields the factorings of an outline, in order.
func (w word) factorings() iter.Seq[[4]int] {
	return func(yield func([4]int) bool) {
		half := len(w) / 2
		for put := range len(w) {
			turn := w.turn(put)
			back := turn.back()
			for a := 1; a < half; a++ {
				for b := 1; a+b <= half; b++ {
					if turn[half:] == backs(back, a, b) && !yield([4]int{put, a, b, half - a - b}) {
						return
					}
				}
			}
		}
	}
}

// backs returns the backs of the words A, B and C of a turn, one behind the other. The back of the turn ends with those of C, B and A.
func backs(back word, a, b int) word {
	half := len(back) / 2
	ofA, ofB := len(back)-a, len(back)-a-b
	return back[ofA:] + back[ofB:ofA] + back[half:ofB]
}

// vectors returns the vectors of a factoring.
func (w word) vectors(f [4]int) [2]point {
	turn := w.turn(f[0])
	a, b, c := f[1], f[2], f[3]
	return [2]point{turn[:a+b].end(), turn[a : a+b+c].end()}
}
