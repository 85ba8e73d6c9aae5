package fixes_test

import (
	"slices"
	"strings"
	"testing"

	"comfit/api"
	"comfit/fixes"
)

// P8.1
func TestIsExamples(t *testing.T) {
	for _, f := range chosenFormulas() {
		if !fixes.Is(f) {
			t.Error(f)
		}
	}
	for _, f := range slices.Concat(noFormulas(), longTexts()) {
		if fixes.Is(f) {
			t.Error(f)
		}
	}
}

// P8.1: all strings of up to 5 bytes that formulas consist of, and some with others.
func TestIs(t *testing.T) {
	found := 0
	known := map[string]bool{}
	for _, letters := range []string{"0123tf-&|<[xyzmg", "0t-&<xm4 w"} {
		var check func(text string)
		check = func(text string) {
			want := refIs(text, "", known)
			if fixes.Is(text) != want {
				t.Error(text, want)
			}
			if want {
				found++
			}
			if len(text) < 5 {
				for i := range len(letters) {
					check(text + letters[i:i+1])
				}
			}
		}
		check("")
	}
	if found < 5000 {
		t.Error("too few formulas", found)
	}
}

// P8.1: formulas of 40 bytes, and of more; drawn formulas that are changed at one place.
func TestIsLongFormulas(t *testing.T) {
	d := &dice{5}
	found := map[bool]int{}
	for i := range 3000 {
		length := i%45 + 1
		f := d.formula(length, "0123", "")
		if len(f) != length || fixes.Is(f) != (length <= 40) {
			t.Error(f, length)
		}
		at := d.from(0, length-1)
		with := d.one("0123tf-&|<[xyzmg4 ")
		for _, text := range []string{f[:at], f[at+1:] + f[:at], f + f[at:], f + "\x00", " " + f, f[:at] + with + f[at+1:], f[:at] + with + f[at:], f[:at] + f[at+1:]} {
			want := len(text) <= 40 && refIs(text, "", map[string]bool{})
			if fixes.Is(text) != want {
				t.Error(text, want)
			}
			found[want]++
		}
	}
	if found[true] < 1000 || found[false] < 5000 {
		t.Error("too few of a kind", found)
	}
}

// P8.2
func TestNotExamples(t *testing.T) {
	for f, want := range map[string]string{
		"0": "-0", "-0": "0", "3": "-3", "-3": "3", "t": "f", "f": "t", "&0-1": "|-01", "|2-3": "&-23", "<0": "[-0", "[-1": "<1", "mxx": "gxx", "gyy": "myy",
		"mx|0<x": "gx&-0[x", "gx&-0[x": "mx|0<x", "gxmygz|&0<x|<y&1<z": "mxgymz&|-0[x&[y|-1[z", "&tf": "|ft",
		strings.Repeat("[", 39) + "f": strings.Repeat("<", 39) + "t", strings.Repeat("<", 38) + "0": strings.Repeat("[", 38) + "-0",
		strings.Repeat("[", 38) + "-0": strings.Repeat("<", 38) + "0",
	} {
		if s, e := fixes.Not(f); s != want || e != api.OK {
			t.Error(f, s, e)
		}
	}
}

// P8.2: ErrForm also if there are more than 40 bytes.
func TestNot(t *testing.T) {
	found := map[api.Errno]int{}
	d := &dice{20}
	formulas := slices.Concat(chosenFormulas(), drawnFormulas(6, 4000, "0123"))
	for range 1000 {
		formulas = append(formulas, d.plain(d.from(25, 40)))
	}
	for _, f := range formulas {
		before, _ := refTree(f)
		want, wantError := refOpposite(before).text(), api.OK
		if len(want) > 40 {
			want, wantError = "", api.ErrForm
		}
		if s, e := fixes.Not(f); s != want || e != wantError {
			t.Error(f, s, e, want, wantError)
		}
		found[wantError]++
	}
	for digits := 1; digits <= 20; digits++ {
		f := strings.Repeat("&0", digits-1) + strings.Repeat("<", 41-3*digits+max(0, 3*digits-40)) + "0"
		want := api.OK
		if len(f)+digits > 40 {
			want = api.ErrForm
		}
		if _, e := fixes.Not(f); e != want || !fixes.Is(f) {
			t.Error(f, e, want)
		}
	}
	if found[api.OK] < 1000 || found[api.ErrForm] < 200 {
		t.Error("too few of a kind", found)
	}
}

// P8.1, Example 1
func TestHoldsExamples(t *testing.T) {
	end := fixes.Works{Next: []int{2, 0}, Marks: []int{9, 6}}
	for _, x := range []struct {
		w    fixes.Works
		f    string
		want int
	}{
		{line, "mx|0<x", 7}, {line, "gx&0<x", 4}, {line, "[f", 0}, {line, "t", 7}, {line, "f", 0}, {line, "<t", 7}, {line, "[0", 6},
		{end, "0", 1}, {end, "1", 2}, {end, "2", 2}, {end, "3", 1}, {end, "-0", 2}, {end, "-1", 1}, {end, "-2", 1}, {end, "-3", 2},
		// Where there is no next state, all have what is asked, and none has.
		{end, "<t", 1}, {end, "[f", 2}, {end, "[0", 2}, {end, "[1", 3}, {end, "<1", 1}, {end, "<0", 0},
		{end, "mx[x", 3}, {end, "gx<x", 0}, {line, "mx[x", 0}, {line, "gx<x", 7}, {end, "mxx", 0}, {end, "gxx", 3},
		// One letter after the other; a letter of the outer fixed point within the inner one.
		{line, "&mx|0<xgx&0<x", 4}, {line, "gxmy|&0<x<y", 7}, {line, "mxgy|&0x&<x<y", 0}, {line, "gxmy&x|0<y", 7}, {line, "mxmy|0|<x<y", 7},
		// On all ways mark 0 comes again and again, or at last stays away.
		{fixes.Works{Next: []int{2, 5, 4}, Marks: []int{1, 0, 0}}, "gxmy|&0<x<y", 3},
		{fixes.Works{Next: []int{2, 5, 4}, Marks: []int{1, 0, 0}}, "mxgy|&0[x&-0[y", 4},
	} {
		if s, e := fixes.Holds(x.w, x.f); s != x.want || e != api.OK {
			t.Error(x, s, e)
		}
	}
}

// P8.1
func TestHolds(t *testing.T) {
	some, within := 0, 0 // results that are not all or nothing, and those of a fixed point within another one
	check := func(w fixes.Works, f string) {
		want := refHolds(w, f, nil)
		if s, e := fixes.Holds(w, f); s != want || e != api.OK {
			t.Error(w, f, s, e, want)
		}
		if want > 0 && want < everything(w) {
			some++
			if strings.Contains(f, "y") {
				within++
			}
		}
	}
	for _, w := range slices.Concat(fewWorks(), drawnWorks(21, 100, 3)) {
		if len(w.Next) <= 4 {
			for _, f := range chosenFormulas() {
				check(w, f)
			}
		}
	}
	formulas := slices.Concat(drawnFormulas(8, 4000, "0000123"), fixedFormulas(22, 2000, "0000123"))
	for i, w := range works() {
		for k := range 2 {
			// Three fixed points within each other take the reference long.
			f := formulas[(2*i+k)%len(formulas)]
			if len(w.Next) <= 3 || len(w.Next) <= 5 && !strings.Contains(f, "z") || !strings.Contains(f, "y") {
				check(w, f)
			}
		}
	}
	if some < 5000 || within < 1000 {
		t.Error("too few of a kind", some, within)
	}
}

// P8.3, Example 1
func TestStepsExamples(t *testing.T) {
	chain := fixes.Works{Next: []int{2, 4, 8, 16, 32, 0}, Marks: []int{0, 0, 0, 0, 0, 2}}
	for _, x := range []struct {
		w    fixes.Works
		f    string
		want int
	}{
		{line, "mx|0<x", 4}, {line, "gx&-0<x", 4}, {line, "gx&0<x", 2}, {line, "mxx", 1}, {line, "gxx", 1}, {line, "mxf", 1}, {line, "gxt", 1}, {line, "mxt", 2}, {line, "gxf", 2},
		{line, "mymx|0<x", 2}, {line, "gymx|0<x", 1}, {line, "gz&mx|0<x[z", 1}, {line, "mx|0[x", 4},
		{chain, "mx|1<x", 7}, {chain, "gx&-1[x", 7}, {chain, "gx<x", 7}, {chain, "mx[x", 7}, {chain, "mz|1<<z", 4}, {chain, "mx|1<<<<<x", 3},
	} {
		if n, e := fixes.Steps(x.w, x.f); n != x.want || e != api.OK {
			t.Error(x, n, e)
		}
	}
}

// P8.3
func TestSteps(t *testing.T) {
	found := map[int]int{}
	formulas := fixedFormulas(9, 3000, "0000123")
	for i, w := range works() {
		for k := range 3 {
			f := formulas[(3*i+k)%len(formulas)]
			if len(w.Next) > 4 && strings.Contains(f, "z") {
				continue
			}
			want := refSteps(w, f)
			if n, e := fixes.Steps(w, f); n != want || e != api.OK {
				t.Error(w, f, n, e, want)
			}
			found[want]++
		}
	}
	if found[1] < 500 || found[2] < 500 || found[3] < 200 || found[4] < 50 {
		t.Error("too few of a kind", found)
	}
}
