package swaps_test

import "slices"

// refBetter reports whether i likes card a better than card b.
func refBetter(w [][]int, i, a, b int) bool { return slices.Index(w[i], a) < slices.Index(w[i], b) }

// refTrade returns the deal by trading in circles, and the rounds.
func refTrade(w [][]int) (deal, rounds []int) {
	deal, rounds = make([]int, len(w)), make([]int, len(w))
	gone := 0
	for round := 1; gone < len(w); round++ {
		points := map[int]int{}
		for i := range w {
			for _, card := range slices.Backward(w[i]) {
				if rounds[i] == 0 && rounds[card] == 0 {
					points[i] = card
				}
			}
		}
		for i := range points {
			if refComesBack(points, i) {
				deal[i], rounds[i] = points[i], round
				gone++
			}
		}
	}
	return deal, rounds
}

// refComesBack reports whether pointing on from i leads to i.
func refComesBack(points map[int]int, i int) bool {
	at := i
	for range points {
		at = points[at]
		if at == i {
			return true
		}
	}
	return false
}

// refMembers returns the collectors of a set.
func refMembers(set int) []int {
	var l []int
	for i := range 6 {
		if set>>i&1 == 1 {
			l = append(l, i)
		}
	}
	return l
}

// refBlocks reports whether a set, which is not empty, blocks a deal, and whether strongly.
func refBlocks(w [][]int, deal []int, set int) (blocks, strongly bool) {
	members := refMembers(set)
	for _, order := range orders[len(members)] {
		better, worse := 0, 0
		for k, i := range members {
			card := members[order[k]]
			if refBetter(w, i, card, deal[i]) {
				better++
			}
			if refBetter(w, i, deal[i], card) {
				worse++
			}
		}
		blocks = blocks || better > 0 && worse == 0
		strongly = strongly || better == len(members)
	}
	return blocks, strongly
}

// refLeast returns the least sets that block a deal, and strongly, or 0.
func refLeast(w [][]int, deal []int) (least, strong int) {
	for set := 1<<len(w) - 1; set > 0; set-- {
		blocks, strongly := refBlocks(w, deal, set)
		if blocks {
			least = set
		}
		if strongly {
			strong = set
		}
	}
	return least, strong
}

// refWaste returns the first deal that is as good for everybody and better for somebody, or nil.
func refWaste(w [][]int, deal []int) []int {
	for _, other := range orders[len(w)] {
		better, worse := 0, 0
		for i := range w {
			if refBetter(w, i, other[i], deal[i]) {
				better++
			}
			if refBetter(w, i, deal[i], other[i]) {
				worse++
			}
		}
		if better > 0 && worse == 0 {
			return other
		}
	}
	return nil
}

// refCore returns all deals that no set blocks strongly.
func refCore(w [][]int) [][]int {
	var l [][]int
	for _, deal := range orders[len(w)] {
		if _, strong := refLeast(w, deal); strong == 0 {
			l = append(l, deal)
		}
	}
	return l
}

// refTurns returns the deal of choosing in turns.
func refTurns(w [][]int, order []int) []int {
	deal := make([]int, len(w))
	var taken []int
	for _, i := range order {
		at := 0
		for slices.Contains(taken, w[i][at]) {
			at++
		}
		deal[i] = w[i][at]
		taken = append(taken, deal[i])
	}
	return deal
}

// refOrder returns the first order that makes a deal, or nil.
func refOrder(w [][]int, deal []int) []int {
	for _, order := range orders[len(w)] {
		if slices.Equal(refTurns(w, order), deal) {
			return order
		}
	}
	return nil
}

// refIsCircle reports whether l, which may be any numbers, is a circle of 2 or 3 collectors that begins with its least one.
func refIsCircle(net, l []int) bool {
	if len(l) != 2 && len(l) != 3 {
		return false
	}
	for k, i := range l {
		next := l[(k+1)%len(l)]
		if i < 0 || i >= len(net) || next < 0 || next >= len(net) || net[i]>>next&1 == 0 {
			return false
		}
		if k > 0 && i <= l[0] || slices.Index(l, i) != k {
			return false
		}
	}
	return true
}

// refCircles returns all circles, in order.
func refCircles(net []int) [][]int {
	var l [][]int
	for a := range net {
		for b := range net {
			l = append(l, []int{a, b})
			for c := range net {
				l = append(l, []int{a, b, c})
			}
		}
	}
	l = slices.DeleteFunc(l, func(circle []int) bool { return !refIsCircle(net, circle) })
	slices.SortFunc(l, slices.Compare)
	return l
}

// refAreSwaps reports whether l are swaps in order, and how many they help.
func refAreSwaps(net []int, l [][]int) (int, bool) {
	if !slices.IsSortedFunc(l, slices.Compare) {
		return 0, false
	}
	in := map[int]bool{}
	number := 0
	for _, circle := range l {
		if !refIsCircle(net, circle) {
			return 0, false
		}
		for _, i := range circle {
			in[i] = true
			number++
		}
	}
	if len(in) < number {
		return 0, false
	}
	return number, true
}

// refMost returns how many collectors swaps can help. All collectors but those helped keep their cards, so it goes through all deals.
func refMost(net []int) int {
	most := 0
	for _, deal := range orders[len(net)] {
		number := 0
		for i, card := range deal {
			third := deal[deal[card]]
			if card != i && (net[i]>>card&1 == 0 || deal[card] != i && third != i) {
				number = -100
			}
			if card != i {
				number++
			}
		}
		most = max(most, number)
	}
	return most
}
