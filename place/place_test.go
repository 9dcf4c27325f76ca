package place_test

import (
	"testing"

	"tierline/api"
	"tierline/code"
	"tierline/drawn"
	"tierline/place"
	"tierline/step"
	"tierline/told"
)

// TestRefuses (P10.1, P10.2): functions that are none, behind what proof's Check refuses.
func TestRefuses(t *testing.T) {
	told.Refused(t, func(p api.Program, fn int, want api.Errno) { wantRefused(t, p, fn, want) })
}

// TestDrawn (P10.1, P10.2): drawn programs, held against the chapter's words.
func TestDrawn(t *testing.T) {
	d := drawn.Die(101)
	var clashing, alone, greatest int
	for i := range 600 {
		p := drawn.Any(&d, i)
		for fn := range p.Funcs {
			clashes, places := wantTold(t, p, fn)
			for value, others := range clashes {
				clashing += len(others)
				if len(others) == 0 {
					alone++
				}
				greatest = max(greatest, places[value])
			}
		}
	}
	if min(clashing, alone) < 1000 || greatest < api.MaxRegs-1 {
		t.Errorf("too little is seen: %d that clash, %d that do not, places up to %d", clashing, alone, greatest)
	}
}

// TestRuns (what comes of P10): in runs, what is kept in its place stays there as long as a live register is it.
func TestRuns(t *testing.T) {
	d := drawn.Die(102)
	held, back, shared := 0, 0, 0
	for i := range 500 {
		p := drawn.Any(&d, i)
		var all [][]int
		for fn := range p.Funcs {
			places, _ := place.Assign(p, fn)
			all = append(all, places)
			shared += len(places) - distinct(places)
		}
		s, _ := step.Begin(p, drawn.Args(&d, p), []int{3, 1, -7}, 200)
		h, b := told.Follow(t, p, s, all)
		held, back = held+h, back+b
	}
	if min(held, back, shared) < 2000 {
		t.Errorf("only %d registers were held against places, only %d times a place was come to again, only %d values share places", held, back, shared)
	}
}

// distinct numbers: how many there are.
func distinct(l []int) int {
	seen := map[int]bool{}
	for _, n := range l {
		seen[n] = true
	}
	return len(seen)
}

// FuzzPlace (P10.1, P10.2): whatever the program is, the answers are those of the chapter's words.
func FuzzPlace(f *testing.F) {
	d := drawn.Die(103)
	for i := range 21 {
		l, _ := code.Encode(drawn.Any(&d, i))
		f.Add(l)
	}
	f.Fuzz(func(t *testing.T, l []byte) {
		told.Decoded(l, func(p api.Program, fn int, want api.Errno) { wantRefused(t, p, fn, want) },
			func(p api.Program, fn int) { wantTold(t, p, fn) })
	})
}
