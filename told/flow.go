package told

import (
	"slices"

	"tierline/api"
)

// Ends: does an op end a block (P7.1)?
func Ends(op int) bool {
	return slices.Contains([]int{api.Jump, api.If, api.Call, api.Host, api.Ret}, op)
}

// Begins: for each place of a function, and its end, whether a block begins there (P7.1).
func Begins(f api.Func) []bool {
	l := make([]bool, len(f.Code)+1)
	l[0] = true
	for pc, reached := range Reached(f)[:len(f.Code)] {
		if reached && Ends(f.Code[pc].Op) {
			for _, to := range Behind(f, pc) {
				l[to] = true
			}
		}
	}
	return l
}

// LiveOf: for each place of a function, as bits, the registers that are live ahead of it; -1: it is not reached (P7.4). Register by register, it is looked for a way to an instruction that reads it.
func LiveOf(p api.Program, f api.Func) []int {
	reached := Reached(f)
	l := make([]int, len(f.Code))
	for pc := range l {
		if !reached[pc] {
			l[pc] = -1
			continue
		}
		for r := range f.Regs {
			if readAhead(p, f, pc, r, make([]bool, len(f.Code))) {
				l[pc] |= 1 << r
			}
		}
	}
	return l
}

// readAhead: is there a way from a place to an instruction that reads a register, on which none ahead of that one sets it?
func readAhead(p api.Program, f api.Func, pc, reg int, seen []bool) bool {
	if seen[pc] {
		return false
	}
	seen[pc] = true
	if slices.Contains(ReadBy(p, f.Code[pc]), reg) {
		return true
	}
	return !SetBy(f.Code[pc], reg) && slices.ContainsFunc(Behind(f, pc), func(to int) bool {
		return readAhead(p, f, to, reg, seen)
	})
}

// Tidied: a state whose frames, from one on, have noughts in all registers that are not live ahead of their places, and in all of them where the place is not reached (P13.4, P14.1).
func Tidied(p api.Program, s api.State, from int) api.State {
	s.Frames = slices.Clone(s.Frames)
	for i := from; i < len(s.Frames); i++ {
		f := &s.Frames[i]
		live := LiveOf(p, p.Funcs[f.Fn])[f.Pc]
		for r := range f.Regs {
			if live < 0 || live>>r&1 == 0 {
				f.Regs[r] = 0
			}
		}
	}
	return s
}
