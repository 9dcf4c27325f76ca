package ssa_test

import (
	"fmt"
	"math"
	"testing"

	"tierline/api"
	"tierline/code"
	"tierline/drawn"
	"tierline/ssa"
	"tierline/told"
)

// wantRefused: both calls refuse it alike, and answer nothing.
func wantRefused(t *testing.T, p api.Program, fn, pc int, want api.Errno) {
	t.Helper()
	if s, e := ssa.Build(p, fn); e != want || fmt.Sprint(s) != "{0 0 []}" {
		t.Errorf("Build(%v, %d): %v %v, want %v", p, fn, s, e, want)
	}
	if l, e := ssa.At(p, fn, pc); e != want || len(l) != 0 {
		t.Errorf("At(%v, %d, %d): %v %v, want %v", p, fn, pc, l, e, want)
	}
}

// TestRefuses (P8.2, P8.3): functions that are none, behind what proof's Check refuses, and both ahead of a place that is none or not reached.
func TestRefuses(t *testing.T) {
	told.Refused(t, func(p api.Program, fn int, want api.Errno) {
		for _, pc := range []int{0, 1, 3, -1, api.MaxCode, math.MinInt, math.MaxInt} {
			wantRefused(t, p, fn, pc, want)
		}
	})
}

// TestDrawn (P8.1 to P8.3): drawn programs, held against the chapter's words.
func TestDrawn(t *testing.T) {
	d := drawn.Die(84)
	var phis, none, fromBeginning, ofThree, ofLater int
	for i := range 600 {
		p := drawn.Any(&d, i)
		for fn := range p.Funcs {
			s := wantTold(t, &d, p, fn)
			if phisOf(s) == 0 {
				none++
			}
			for b, part := range s.Parts {
				for _, phi := range part.Phis {
					phis++
					if b == 0 {
						fromBeginning++
					}
					if len(phi.Args) > 2 {
						ofThree++
					}
				}
				for _, x := range part.Ins {
					if x.Id >= 0 && x.A > x.Id {
						ofLater++
					}
				}
			}
		}
	}
	if min(phis, none, fromBeginning, ofThree, ofLater) < 50 {
		t.Errorf("phis: %d, functions without: %d, phis of the first block: %d, of three and more: %d, later values that are read: %d", phis, none, fromBeginning, ofThree, ofLater)
	}
}

// FuzzSsa (P8.1 to P8.3): whatever the program is, the answers are those of the chapter's words.
func FuzzSsa(f *testing.F) {
	d := drawn.Die(85)
	for i := range 21 {
		l, _ := code.Encode(drawn.Any(&d, i))
		f.Add(l)
	}
	f.Fuzz(func(t *testing.T, l []byte) {
		d := drawn.Die(len(l))
		told.Decoded(l, func(p api.Program, fn int, want api.Errno) { wantRefused(t, p, fn, 0, want) },
			func(p api.Program, fn int) { wantTold(t, &d, p, fn) })
	})
}
