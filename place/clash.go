package place

import (
	"slices"

	"tierline/api"
)

// none: what ssa tells of an instruction that makes no value.
const none = -1

// meetings: for each value those that it meets, as often as it does.
type meetings [][]int

// clashes of a function's values, by which registers are live ahead of each instruction.
func clashes(s api.Ssa, code []api.Instr, live []int) [][]int {
	met := make(meetings, s.Values)
	for _, part := range s.Parts {
		met.walk(part, code, live)
	}
	for value, others := range met {
		slices.Sort(others)
		met[value] = slices.Compact(others)
	}
	return met
}

// walk through a block. A register that is live in it was so at its beginning, or was set on the way, so that it is known what it is.
func (met meetings) walk(part api.Part, code []api.Instr, live []int) {
	regs := part.In
	for _, x := range part.Ins {
		met.meet(of(regs, live[x.Pc]))
		if x.Id == none {
			continue
		}
		// Behind it others are what they were ahead of it, even where the next block has phis for them; so they have met each other, and meet only what is made, be it live or not.
		dst := code[x.Pc].Dst
		regs[dst] = x.Id
		met.meet(of(regs, live[x.Pc+1]|1<<dst))
	}
}

// of: what those registers are that are among the bits.
func of(regs [api.MaxRegs]int, bits int) []int {
	var values []int
	for r, value := range regs {
		if bits>>r&1 != 0 {
			values = append(values, value)
		}
	}
	return values
}

// meet: each of these values meets all others. None is there twice, as each value is made for one register.
func (met meetings) meet(values []int) {
	for i, one := range values {
		for _, other := range values[:i] {
			met[one] = append(met[one], other)
			met[other] = append(met[other], one)
		}
	}
}
