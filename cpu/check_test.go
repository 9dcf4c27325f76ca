package cpu_test

import (
	"math"
	"testing"

	"tierline/api"
	"tierline/cpu"
)

// TestCheck (P12.1): as many words as may be, whatever they are, and more than that.
func TestCheck(t *testing.T) {
	for _, fill := range []int{0, 115, -1, math.MinInt, math.MaxInt} {
		for _, c := range []struct {
			n    int
			want api.Errno
		}{
			{0, api.OK},
			{1, api.OK},
			{32767, api.OK},
			{32768, api.OK},
			{32769, api.ErrSize},
			{32770, api.ErrSize},
			{65536, api.ErrSize},
			{100000, api.ErrSize},
		} {
			l := make([]int, c.n, c.n+7)
			for i := range l {
				l[i] = fill
			}
			if e := cpu.Check(l); e != c.want {
				t.Errorf("Check of %d words: %v, want %v", c.n, e, c.want)
			}
		}
	}
	if e := cpu.Check(nil); e != api.OK {
		t.Errorf("Check of no words: %v, want OK", e)
	}
	// Spare room holds no words.
	if e := cpu.Check(make([]int, 32768, 100000)); e != api.OK {
		t.Errorf("Check of 32768 words with room for more: %v, want OK", e)
	}
}

// TestSize (P12.3, P12.4): more words than may be are refused ahead of all else, of a machine that has stopped, too.
func TestSize(t *testing.T) {
	l := make([]int, api.MaxWords+1)
	l[0] = word(t, api.Rv{Op: api.REcall})
	for _, c := range []api.Cpu{{}, {Pc: -1}, {Pc: 1}, {Pc: api.MaxWords}, {Pc: math.MaxInt}, {Halted: true}} {
		wantRefused(t, l, c, api.ErrSize)
		for _, most := range []int{math.MinInt, -1, 0, api.MaxSteps + 1, math.MaxInt} {
			wantRunRefused(t, l, c, most, api.ErrSize)
		}
	}
	l = l[:api.MaxWords]
	wantStep(t, l, api.Cpu{}, api.Cpu{Halted: true})
	l[api.MaxWords-1] = word(t, api.Rv{Op: api.RJal, Rd: 5, Imm: -4 * (api.MaxWords - 1)})
	// The address behind the last word that there may be.
	wantStep(t, l, api.Cpu{Pc: api.MaxWords - 1}, with(api.Cpu{}, map[int]int{5: 131072}))
	wantRun(t, l, api.Cpu{Pc: api.MaxWords - 1}, 2, with(api.Cpu{Halted: true}, map[int]int{5: 131072}))
}
