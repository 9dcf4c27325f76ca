package tiers

import (
	"tierline/api"
	"tierline/flow"
)

// unreached: what flow tells of an instruction to which no way leads.
const unreached = -1

// tidy frames of a right program, where they lie.
func tidy(p api.Program, l []api.Frame) {
	for i := range l {
		f := &l[i]
		live, _ := flow.Live(p, f.Fn)
		f.Regs = wanted(f.Regs, live[f.Pc])
	}
}

// wanted: registers that are live, as bits tell it, and noughts.
func wanted(regs [api.MaxRegs]int, live int) [api.MaxRegs]int {
	if live == unreached {
		live = 0
	}
	for r := range regs {
		if live>>r&1 == 0 {
			regs[r] = 0
		}
	}
	return regs
}
