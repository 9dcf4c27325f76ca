package cpu_test

import (
	"math"
	"testing"

	"tierline/api"
	"tierline/cpu"
)

// wantStay: no step is done of a machine that has stopped.
func wantStay(t *testing.T, words []int, c api.Cpu) {
	t.Helper()
	want := c
	want.Regs[0] = 0
	if got, e := cpu.Step(words, c); e != api.OK || got != want {
		t.Errorf("Step(%x, %v):\n%v %v, want\n%v", words, c, got, e, want)
	}
	wantRun(t, words, c, 0, want)
}

// counting: adds up the numbers from the register 5 down in the register 6.
func counting(t *testing.T) []int {
	return words(t,
		api.Rv{Op: api.RBeq, Rs1: 5, Imm: 16},
		api.Rv{Op: api.RAdd, Rd: 6, Rs1: 6, Rs2: 5},
		api.Rv{Op: api.RAddi, Rd: 5, Rs1: 5, Imm: -1},
		api.Rv{Op: api.RJal, Imm: -12},
		api.Rv{Op: api.REcall})
}

// TestRun (P12.4): the machine when it has stopped, and how many steps that were, the one that stops it among them.
func TestRun(t *testing.T) {
	for n, sum := range map[int]int{0: 0, 1: 1, 2: 3, 10: 55, 1000: 500500} {
		c := with(filled(), map[int]int{5: n, 6: 0})
		want := at(with(c, map[int]int{5: 0, 6: sum}), 4)
		want.Halted = true
		wantRun(t, counting(t), c, 4*n+2, want)
	}
}

// TestCalls (P12.2, P12.4): a function of machine code that stands ahead of its callers goes back to each of them.
func TestCalls(t *testing.T) {
	ws := words(t,
		api.Rv{Op: api.RSd, Rs1: 10, Rs2: 11},
		api.Rv{Op: api.RAddi, Rd: 10, Rs1: 10, Imm: 8},
		api.Rv{Op: api.RJalr, Rs1: 1},
		api.Rv{Op: api.RJal, Rd: 1, Imm: -12},
		api.Rv{Op: api.RAddi, Rd: 11, Rs1: 11, Imm: 1},
		api.Rv{Op: api.RJalr, Rd: 1, Imm: 0},
		api.Rv{Op: api.RLd, Rd: 12, Imm: 8},
		api.Rv{Op: api.REcall})
	c := at(with(filled(), map[int]int{10: 0, 11: 70}), 3)
	want := at(with(c, map[int]int{1: 24, 10: 16, 11: 71, 12: 71}), 7)
	want.Data[0], want.Data[1] = 70, 71
	want.Halted = true
	wantRun(t, ws, c, 11, want)
}

// TestMost (P12.4): bounds of the number of steps, which are told ahead of what steps say, also of a machine that has stopped.
func TestMost(t *testing.T) {
	stopped := filled()
	stopped.Halted = true
	for _, most := range []int{math.MinInt, -1 << 32, -2, -1, 4000001, 1 << 32, math.MaxInt} {
		for _, ws := range [][]int{nil, {0}, {115}} {
			wantRunRefused(t, ws, filled(), most, api.ErrRange)
			wantRunRefused(t, ws, stopped, most, api.ErrRange)
			wantRunRefused(t, ws, at(filled(), -1), most, api.ErrRange)
		}
	}
}

// TestMostSteps (P12.4): runs of as many steps as may be, and of one more.
func TestMostSteps(t *testing.T) {
	ws := words(t,
		api.Rv{Op: api.RAddi},
		api.Rv{Op: api.RAddi},
		api.Rv{Op: api.RAddi, Rd: 5, Rs1: 5, Imm: -1},
		api.Rv{Op: api.RBne, Rs1: 5, Imm: -4},
		api.Rv{Op: api.REcall})
	want := at(api.Cpu{Halted: true}, 4)
	c := with(api.Cpu{}, map[int]int{5: (api.MaxSteps - 2) / 2})
	wantRun(t, ws, at(c, 1), api.MaxSteps, want)
	wantRunRefused(t, ws, c, api.MaxSteps, api.ErrSteps)
	wantRunRefused(t, words(t, api.Rv{Op: api.RJal}), api.Cpu{}, api.MaxSteps, api.ErrSteps)
}

// TestRunRefused (P12.4): the step that is refused says why, if a run comes to it; where it ends ahead of that, it has not stopped.
func TestRunRefused(t *testing.T) {
	nothing := api.Rv{Op: api.RAddi}
	for want, x := range map[api.Errno]api.Rv{
		api.ErrRange: {Op: api.RLd, Imm: 4},
		api.ErrForm:  {Op: api.RJalr, Imm: 2},
		api.ErrState: {Op: api.RJal, Imm: -400},
		api.ErrKind:  {Op: api.RJal, Imm: 8},
	} {
		ws := append(words(t, nothing, nothing, x, api.Rv{Op: api.REcall}), 0)
		first := 3
		if x.Op == api.RJal {
			first = 4
		}
		for most := range first {
			wantRunRefused(t, ws, filled(), most, api.ErrSteps)
		}
		for _, most := range []int{first, first + 1, 100, api.MaxSteps} {
			wantRunRefused(t, ws, filled(), most, want)
		}
	}
	for _, ws := range [][]int{nil, {0}, {-1}, {115}} {
		wantRunRefused(t, ws, filled(), 0, api.ErrSteps)
	}
}
