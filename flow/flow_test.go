package flow_test

import (
	"testing"

	"tierline/api"
	"tierline/code"
	"tierline/drawn"
	"tierline/told"
)

// TestRefuses (P7.2 to P7.5): functions that are none, behind what proof's Check refuses.
func TestRefuses(t *testing.T) {
	told.Refused(t, func(p api.Program, fn int, want api.Errno) { wantRefused(t, p, fn, want) })
}

// TestDrawn (P7.1 to P7.5): drawn programs, held against the chapter's words.
func TestDrawn(t *testing.T) {
	d := drawn.Die(74)
	later, within, selves, many := 0, 0, 0, 0
	for i := range 1200 {
		p := drawn.Tangled(&d)
		if i%3 == 0 {
			p = drawn.Right(&d)
		}
		for fn := range p.Funcs {
			blocks, above, loops := wantFlow(t, p, fn)
			for b, a := range above {
				if a > b {
					later++
				}
				if a < b-1 && a > 0 {
					within++
				}
			}
			for _, l := range loops {
				if len(l) == 1 {
					selves++
				} else if len(l) > 3 {
					many++
				}
			}
			if len(blocks) == 0 {
				t.Errorf("%v: function %d has no blocks", p, fn)
			}
		}
	}
	if min(later, within, selves, many) < 100 {
		t.Errorf("blocks above that stand later: %d, that are neither the first nor the one ahead: %d; loops of one block: %d, of more than three: %d", later, within, selves, many)
	}
}

// FuzzFlow (P7.1 to P7.5): whatever the program is, the answers are those of the chapter's words.
func FuzzFlow(f *testing.F) {
	d := drawn.Die(75)
	for range 20 {
		l, _ := code.Encode(drawn.Tangled(&d))
		f.Add(l)
	}
	f.Fuzz(func(t *testing.T, l []byte) {
		told.Decoded(l, func(p api.Program, fn int, want api.Errno) { wantRefused(t, p, fn, want) },
			func(p api.Program, fn int) { wantFlow(t, p, fn) })
	})
}
