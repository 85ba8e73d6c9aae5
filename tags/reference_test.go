package tags_test

import (
	"comfit/api"
	"comfit/tags"
)

// refTapes returns the tapes after 0, 1 and more steps, up to so many, and api.ErrNone if the last one stops, or api.ErrSize if the next one would be too long.
func refTapes(c cutter, steps int) ([]string, api.Errno) {
	l := []string{c.tape}
	tape := []byte(c.tape)
	for {
		if len(tape) < c.cut {
			return l, api.ErrNone
		}
		if len(l) > steps {
			return l, api.OK
		}
		for i, letter := range []byte("abcd") {
			if tape[0] == letter {
				tape = append(tape, c.strings[i]...)
				break
			}
		}
		for range c.cut {
			tape = tape[1:]
		}
		if len(tape) > 200 {
			return l, api.ErrSize
		}
		l = append(l, string(tape))
	}
}

// refRun returns what Run does, if tapes and end are those of 1000 steps.
func refRun(tapes []string, end api.Errno, steps int) (string, int, api.Errno) {
	last := len(tapes) - 1
	if steps <= last {
		return tapes[steps], steps, api.OK
	}
	if end == api.ErrSize {
		return "", 0, api.ErrSize
	}
	return tapes[last], last, api.OK
}

// refAgain returns what Again does, if tapes and end are those of 1000 steps.
func refAgain(tapes []string, end api.Errno) (begin, length int, e api.Errno) {
	for j := range tapes {
		for i := range j {
			if tapes[i] == tapes[j] {
				return i, j - i, api.OK
			}
		}
	}
	if end == api.OK {
		return 0, 0, api.ErrState
	}
	return 0, 0, end
}

// moment is where a machine is after some steps, and which jar the next step finds empty, or -1.
type moment struct {
	order int
	jars  [2]int
	empty int
}

// refMoments returns the moments after 0, 1 and more steps, up to so many or its end, and whether it ends there.
func refMoments(m []tags.Order, jars [2]int, steps int) (l []moment, ends bool) {
	order, x := 0, jars
	l = make([]moment, 0, steps+1)
	for {
		o := m[order]
		now := moment{order, x, -1}
		if o.Do == 2 && x[o.Jar] == 0 {
			now.empty = o.Jar
		}
		l = append(l, now)
		if o.Do == 0 {
			return l, true
		}
		if len(l) > steps {
			return l, false
		}
		switch {
		case o.Do == 1:
			x[o.Jar]++
			order = o.Then
		case now.empty < 0:
			x[o.Jar]--
			order = o.Then
		default:
			order = o.Else
		}
	}
}

// refIsCircle reports whether i and j are a circle of a run with these moments.
func refIsCircle(l []moment, i, j int) bool {
	if i < 0 || j < 0 || i >= len(l) || j >= len(l) || i >= j || l[i].order != l[j].order {
		return false
	}
	for jar := range 2 {
		found := false
		for k := i; k < j; k++ {
			found = found || l[k].empty == jar
		}
		more := l[j].jars[jar] - l[i].jars[jar]
		if more < 0 || found && more > 0 {
			return false
		}
	}
	return true
}

// refCircles returns all circles with the least j, rising.
func refCircles(l []moment) [][2]int {
	var circles [][2]int
	for j := range l {
		for i := range j {
			if refIsCircle(l, i, j) {
				circles = append(circles, [2]int{i, j})
			}
		}
		if len(circles) > 0 {
			return circles
		}
	}
	return nil
}

// refAdds reports whether m adds into the jar.
func refAdds(m []tags.Order, jar int) bool {
	for x := 0; x <= 4; x++ {
		for y := 0; y <= 4; y++ {
			l, ends := refMoments(m, [2]int{x, y}, 1000)
			if !ends || l[len(l)-1].jars[jar] != x+y {
				return false
			}
		}
	}
	return true
}

// refReached returns which orders are reached, in the order of their numbers.
func refReached(m []tags.Order) []int {
	reached := make([]bool, len(m))
	var visit func(i int)
	visit = func(i int) {
		if reached[i] {
			return
		}
		reached[i] = true
		if m[i].Do >= 1 {
			visit(m[i].Then)
		}
		if m[i].Do == 2 {
			visit(m[i].Else)
		}
	}
	visit(0)
	var l []int
	for i, ok := range reached {
		if ok {
			l = append(l, i)
		}
	}
	return l
}

// refFewer returns the orders that are reached, with new numbers.
func refFewer(m []tags.Order) []tags.Order {
	number := map[int]int{}
	for i, order := range refReached(m) {
		number[order] = i
	}
	var l []tags.Order
	for _, i := range refReached(m) {
		switch o := m[i]; o.Do {
		case 0:
			l = append(l, tags.Order{})
		case 1:
			l = append(l, tags.Order{Do: 1, Jar: o.Jar, Then: number[o.Then]})
		case 2:
			l = append(l, tags.Order{Do: 2, Jar: o.Jar, Then: number[o.Then], Else: number[o.Else]})
		}
	}
	return l
}
