package lots

// tally is what a plan does with lots of one sort, counted over all of them. Each item is one of as many kinds, all
// equally likely, as its chance to be bad is out of. So all lots are equally likely, and chances are numbers of lots,
// without a rest: at most 12 to the power of 12 of them.
type tally struct{ taken, looks, all int }

// count returns the tally of the plan for lots whose items are bad with a chance.
func (p Plan) count(bad Chance) tally {
	t := tally{all: 1}
	open := map[int]int{0: 1} // by the number of bad items so far, the ways to get there
	for i := range p.Take {
		t = t.times(bad.Of)
		open = further(open, bad)
		for b, ways := range open {
			t.looks += ways
			v := p.after(i+1, b)
			if v == takeLot {
				t.taken += ways
			}
			if v != goOn {
				delete(open, b)
			}
		}
	}
	return t
}

// further returns the ways with one more item.
func further(open map[int]int, bad Chance) map[int]int {
	next := map[int]int{}
	for b, ways := range open {
		next[b] += ways * (bad.Of - bad.Yes)
		next[b+1] += ways * bad.Yes
	}
	return next
}

// times returns the tally where each lot has become n lots.
func (t tally) times(n int) tally { return tally{t.taken * n, t.looks * n, t.all * n} }

func (t tally) takenAtMost(c Chance) bool { return t.taken*c.Of <= c.Yes*t.all }

func (t tally) leftAtMost(c Chance) bool { return (t.all-t.taken)*c.Of <= c.Yes*t.all }
