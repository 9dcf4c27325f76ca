package flow_test

import (
	"math"
	"strings"
	"testing"

	"tierline/api"
	"tierline/code"
	"tierline/drawn"
	"tierline/proof"
	"tierline/told"
)

// TestRefuses (P7.2 to P7.5): functions that are none.
func TestRefuses(t *testing.T) {
	for _, s := range []string{counted, diamond + still, strings.Repeat(nested, api.MaxFuncs)} {
		p := told.Text(t, s)
		for _, fn := range []int{-1, len(p.Funcs), len(p.Funcs) + 1, api.MaxFuncs, 1 << 32, -1 << 32, math.MinInt, math.MaxInt} {
			wantRefused(t, p, fn, api.ErrRange)
		}
	}
}

// TestWrong (P7.2 to P7.5): what proof's Check refuses is refused with the same error, ahead of a function that is none, and also where another function is asked for.
func TestWrong(t *testing.T) {
	for _, p := range drawn.WrongAnywhere() {
		want := proof.Check(p)
		for _, fn := range []int{0, 1, -1, 9, math.MinInt, math.MaxInt} {
			wantRefused(t, p, fn, want)
		}
	}
}

// TestDrawn (P7.1 to P7.5): drawn programs, held against the chapter's words.
func TestDrawn(t *testing.T) {
	d := drawn.Die(74)
	later, within, selves, many := 0, 0, 0, 0
	for i := range 1200 {
		p := drawn.Tangled(&d)
		if i%3 == 0 {
			p = drawn.Right(&d)
		}
		for fn := range p.Funcs {
			blocks, above, loops := wantFlow(t, p, fn)
			for b, a := range above {
				if a > b {
					later++
				}
				if a < b-1 && a > 0 {
					within++
				}
			}
			for _, l := range loops {
				if len(l) == 1 {
					selves++
				} else if len(l) > 3 {
					many++
				}
			}
			if len(blocks) == 0 {
				t.Errorf("%v: function %d has no blocks", p, fn)
			}
		}
	}
	if min(later, within, selves, many) < 100 {
		t.Errorf("blocks above that stand later: %d, that are neither the first nor the one ahead: %d; loops of one block: %d, of more than three: %d", later, within, selves, many)
	}
}

// FuzzFlow (P7.1 to P7.5): whatever the program is, the answers are those of the chapter's words.
func FuzzFlow(f *testing.F) {
	d := drawn.Die(75)
	for range 20 {
		l, _ := code.Encode(drawn.Tangled(&d))
		f.Add(l)
	}
	f.Fuzz(func(t *testing.T, l []byte) {
		p, e := code.Decode(l)
		if e != api.OK {
			return
		}
		if want := proof.Check(p); want != api.OK {
			wantRefused(t, p, 0, want)
			return
		}
		for fn := range p.Funcs {
			wantFlow(t, p, fn)
		}
	})
}
