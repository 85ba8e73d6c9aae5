package fixes

import "strings"

// meaning works out where a formula holds, with the sets for its letters.
type meaning func(w Works, sets map[byte]int) int

// reader takes formulas off the front of a text.
type reader struct {
	rest string
	open string // the letters of each m and g around the rest
}

// read returns what a text means within an m or g of each open letter, or nil if it is no formula there.
func read(text, open string) meaning {
	r := &reader{text, open}
	formula := r.formula()
	if r.rest != "" {
		return nil
	}
	return formula
}

// sign takes a byte off the front. At the end it returns 0, which stands for nothing.
func (r *reader) sign() byte {
	if r.rest == "" {
		return 0
	}
	sign := r.rest[0]
	r.rest = r.rest[1:]
	return sign
}

// formula takes a formula off the front and returns what it means, or nil if there is none.
func (r *reader) formula() meaning {
	switch sign := r.sign(); sign {
	case '0', '1', '2', '3':
		return func(w Works, _ map[byte]int) int { return w.marked(int(sign - '0')) }
	case '-':
		return r.unmarked()
	case 't':
		return func(w Works, _ map[byte]int) int { return w.all() }
	case 'f':
		return func(Works, map[byte]int) int { return 0 }
	case '&', '|':
		return r.both(sign)
	case '<', '[':
		return r.ahead(sign)
	case 'x', 'y', 'z':
		return r.letter(sign)
	case 'm', 'g':
		return r.fixed(sign)
	}
	return nil
}

func (r *reader) unmarked() meaning {
	digit := r.sign()
	if !isDigit(digit) {
		return nil
	}
	return func(w Works, _ map[byte]int) int { return w.all() &^ w.marked(int(digit-'0')) }
}

// both takes the two formulas behind & or | off the front.
func (r *reader) both(sign byte) meaning {
	one := r.formula()
	other := r.formula()
	if one == nil || other == nil {
		return nil
	}
	return func(w Works, sets map[byte]int) int {
		first := one(w, sets)
		second := other(w, sets)
		if sign == '&' {
			return first & second
		}
		return first | second
	}
}

// ahead takes the formula behind < or [ off the front.
func (r *reader) ahead(sign byte) meaning {
	formula := r.formula()
	if formula == nil {
		return nil
	}
	return func(w Works, sets map[byte]int) int {
		states := formula(w, sets)
		if sign == '<' {
			return w.before(states)
		}
		return w.all() &^ w.before(w.all()&^states)
	}
}

func (r *reader) letter(letter byte) meaning {
	if strings.IndexByte(r.open, letter) < 0 {
		return nil
	}
	return func(_ Works, sets map[byte]int) int { return sets[letter] }
}

// fixed takes the letter and the formula behind m or g off the front.
func (r *reader) fixed(sign byte) meaning {
	letter := r.sign()
	if !isLetter(letter) || strings.IndexByte(r.open, letter) >= 0 {
		return nil
	}
	around := r.open
	r.open += string(rune(letter))
	within := r.formula()
	r.open = around
	if within == nil {
		return nil
	}
	return func(w Works, sets map[byte]int) int {
		states, _ := w.fixed(sign, letter, within, sets)
		return states
	}
}

// fixed returns the set for a letter that is where the formula within its m or g holds, and how often that is worked out.
func (w Works) fixed(sign, letter byte, within meaning, sets map[byte]int) (states, times int) {
	begin := 0
	if sign == 'g' {
		begin = w.all()
	}
	return settle(begin, func(set int) int {
		sets[letter] = set
		return within(w, sets)
	})
}

// where returns the states where a formula holds.
func (w Works) where(formula string) int { return read(formula, "")(w, map[byte]int{}) }

func isDigit(sign byte) bool { return sign >= '0' && sign < '0'+maxMarks }

func isLetter(sign byte) bool { return sign >= 'x' && sign <= 'z' }

func isFixed(sign byte) bool { return sign == 'm' || sign == 'g' }

// isPlain reports whether a text is a formula without m, g and letters, of a length for CheckTell.
func isPlain(text string) bool {
	return len(text) <= maxTell && !strings.ContainsAny(text, "mgxyz") && read(text, "") != nil
}

// depth returns the depth of the formula without m, g and letters at the front of a text, and the text behind it.
func depth(text string) (int, string) {
	sign, rest := text[0], text[1:]
	switch sign {
	case '-':
		return 0, rest[1:]
	case '&', '|':
		one, rest := depth(rest)
		other, rest := depth(rest)
		return max(one, other), rest
	case '<', '[':
		within, rest := depth(rest)
		return within + 1, rest
	}
	return 0, rest
}

// exchange returns the formula of all other states.
func exchange(formula string) string {
	var not []byte
	negative := false // whether - is put or left out ahead of the sign
	for i := range len(formula) {
		sign := formula[i]
		if isDigit(sign) && !negative {
			not = append(not, '-')
		}
		negative = sign == '-'
		if !negative {
			not = append(not, opposite(sign))
		}
	}
	return string(not)
}

// opposite returns what a sign is exchanged with, or the sign.
func opposite(sign byte) byte {
	const pairs = "tf&|<[mg"
	i := strings.IndexByte(pairs, sign)
	if i < 0 {
		return sign
	}
	return pairs[i^1]
}
