package place_test

import (
	"fmt"
	"testing"

	"tierline/api"
	"tierline/flow"
	"tierline/place"
	"tierline/ssa"
	"tierline/told"
)

// pairs of values, each told both ways.
type pairs map[[2]int]bool

func (l pairs) add(one, other int) { l[[2]int{one, other}], l[[2]int{other, one}] = true, true }

// pairsOf a function's values that clash, and how many there are (P10.1), by what registers are ahead of each instruction.
func pairsOf(p api.Program, fn int) (pairs, int) {
	l := pairs{}
	s, _ := ssa.Build(p, fn)
	live, _ := flow.Live(p, fn)
	for _, part := range s.Parts {
		for _, x := range part.Ins {
			at, _ := ssa.At(p, fn, x.Pc)
			for r, one := range at {
				for _, other := range at[r+1:] {
					if one >= 0 && other >= 0 {
						l.add(one, other)
					}
				}
				// Behind an instruction a register that it does not set is what it was ahead of it.
				if x.Id >= 0 && !told.SetBy(p.Funcs[fn].Code[x.Pc], r) && live[x.Pc+1]>>r&1 != 0 {
					l.add(x.Id, one)
				}
			}
		}
	}
	return l, s.Values
}

// clashesOf a function's values: for each one others, rising.
func clashesOf(p api.Program, fn int) [][]int {
	l, values := pairsOf(p, fn)
	all := make([][]int, values)
	for one := range all {
		for other := range values {
			if l[[2]int{one, other}] {
				all[one] = append(all[one], other)
			}
		}
	}
	return all
}

// most with which some value clashes.
func most(clashes [][]int) int {
	n := 0
	for _, others := range clashes {
		n = max(n, len(others))
	}
	return n
}

// wantPlaces: each value has a place, none is too great, and values that clash have different ones (P10.2).
func wantPlaces(t *testing.T, p api.Program, fn int, clashes [][]int) []int {
	t.Helper()
	places, e := place.Assign(p, fn)
	if e != api.OK || len(places) != len(clashes) {
		t.Fatalf("Assign(%v, %d): %v %v, want %d places", p, fn, places, e, len(clashes))
	}
	for value, others := range clashes {
		if places[value] < 0 || places[value] > most(clashes) {
			t.Fatalf("Assign(%v, %d): %v: the value %d has the place %d, where at most %d clash with one", p, fn, places, value, places[value], most(clashes))
		}
		for _, other := range others {
			if places[value] == places[other] {
				t.Fatalf("Assign(%v, %d): %v: the values %d and %d have one place", p, fn, places, value, other)
			}
		}
	}
	return places
}

// wantTold: all answers about a function are those of the chapter's words.
func wantTold(t *testing.T, p api.Program, fn int) (clashes [][]int, places []int) {
	t.Helper()
	want := clashesOf(p, fn)
	clashes, e := place.Clash(p, fn)
	if e != api.OK || fmt.Sprint(clashes) != fmt.Sprint(want) {
		t.Fatalf("Clash(%v, %d): %v %v, want %v", p, fn, clashes, e, want)
	}
	return clashes, wantPlaces(t, p, fn, clashes)
}

// wantClash: the values of a function clash as is told, and have places to that.
func wantClash(t *testing.T, text string, fn int, want string) {
	t.Helper()
	p := told.Text(t, text)
	clashes, e := place.Clash(p, fn)
	if got := fmt.Sprint(clashes); e != api.OK || got != want {
		t.Errorf("Clash(%q, %d): %s %v, want %s", text, fn, got, e, want)
		return
	}
	wantPlaces(t, p, fn, clashes)
}

// wantRefused: both calls refuse it alike, and answer nothing.
func wantRefused(t *testing.T, p api.Program, fn int, want api.Errno) {
	t.Helper()
	if l, e := place.Clash(p, fn); e != want || len(l) != 0 {
		t.Errorf("Clash(%v, %d): %v %v, want %v", p, fn, l, e, want)
	}
	if l, e := place.Assign(p, fn); e != want || len(l) != 0 {
		t.Errorf("Assign(%v, %d): %v %v, want %v", p, fn, l, e, want)
	}
}
