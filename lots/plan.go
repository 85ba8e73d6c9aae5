package lots

import (
	"slices"

	"comfit/api"
)

// verdict is what a plan does after an item.
type verdict int

const (
	goOn verdict = iota
	takeLot
	leaveLot
)

func (p Plan) valid() bool {
	n := len(p.Take)
	if !between(1, api.MaxLot, n) || len(p.Leave) != n || !between(-1, n, p.Take...) || !between(0, n+1, p.Leave...) {
		return false
	}
	for i, take := range p.Take {
		if take >= p.Leave[i] {
			return false
		}
	}
	return p.Leave[n-1] == p.Take[n-1]+1
}

// after returns what the plan does after k items with so many bad ones.
func (p Plan) after(k, bad int) verdict {
	if bad <= p.Take[k-1] {
		return takeLot
	}
	if bad >= p.Leave[k-1] {
		return leaveLot
	}
	return goOn
}

// run returns how many of the items the plan looks at, and whether it takes the lot.
func (p Plan) run(items []bool) (int, bool) {
	k, bad := 0, 0
	// The plan never goes on after its last item.
	for v := goOn; v == goOn; v = p.after(k, bad) {
		if items[k] {
			bad++
		}
		k++
	}
	return k, p.after(k, bad) == takeLot
}

// isPair reports whether there is a plan of n and c.
func isPair(n, c int) bool { return between(1, api.MaxLot, n) && between(0, n-1, c) }

func single(n, c int) Plan {
	p := Plan{slices.Repeat([]int{-1}, n), slices.Repeat([]int{n + 1}, n)}
	p.Take[n-1], p.Leave[n-1] = c, c+1
	return p
}

func short(n, c int) Plan {
	var p Plan
	for k := 1; k <= n; k++ {
		p.Take = append(p.Take, max(c-(n-k), -1))
		p.Leave = append(p.Leave, c+1)
	}
	return p
}

func (p Plan) turn() Plan {
	var q Plan
	for i, take := range p.Take {
		k := i + 1
		q.Take = append(q.Take, max(k-p.Leave[i], -1))
		// Take is at least -1 and k at most n, so this is at most n + 1.
		q.Leave = append(q.Leave, max(k-take, 0))
	}
	return q
}
