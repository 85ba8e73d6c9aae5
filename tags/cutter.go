package tags

import (
	"strings"

	"comfit/api"
)

// letters are those of tapes.
const letters = "abcd"

// cutter is how many letters are cut off in a step, and what is put at the end for each letter.
type cutter struct {
	cut     int
	strings [len(letters)]string
}

func (c cutter) valid() bool {
	for _, s := range c.strings {
		if !isText(s, maxString) {
			return false
		}
	}
	return between(1, maxCut, c.cut)
}

func isTape(s string) bool { return isText(s, maxTape) }

// isText reports whether s has at most so many letters, and nothing else.
func isText(s string, most int) bool { return len(s) <= most && strings.Trim(s, letters) == "" }

func (c cutter) stops(tape string) bool { return len(tape) < c.cut }

// step returns a tape after a step, api.ErrNone if it stops, or api.ErrSize.
func (c cutter) step(tape string) (string, api.Errno) {
	if c.stops(tape) {
		return "", api.ErrNone
	}
	next := tape[c.cut:] + c.strings[tape[0]-letters[0]]
	if len(next) > maxTape {
		return "", api.ErrSize
	}
	return next, api.OK
}

// run returns a tape after so many steps or where it stops, and how many were done, or api.ErrSize.
func (c cutter) run(tape string, steps int) (string, int, api.Errno) {
	for done := range steps {
		if c.stops(tape) {
			return tape, done, api.OK
		}
		next, e := c.step(tape)
		if e != api.OK {
			return "", 0, e
		}
		tape = next
	}
	return tape, steps, api.OK
}

// again returns when a tape comes that comes again, and after how many steps more, or what comes before that.
func (c cutter) again(tape string) (begin, length int, e api.Errno) {
	came := map[string]int{tape: 0}
	for done := 1; done <= maxSteps; done++ {
		tape, e = c.step(tape)
		if e != api.OK {
			return 0, 0, e
		}
		if first, ok := came[tape]; ok {
			return first, done - first, api.OK
		}
		came[tape] = done
	}
	if c.stops(tape) {
		return 0, 0, api.ErrNone
	}
	return 0, 0, api.ErrState
}
