package emit

import (
	"tierline/api"
	"tierline/flow"
	"tierline/fold"
	"tierline/place"
	"tierline/ssa"
)

// none: no value, no block, no line.
const none = -1

// registers: which value each of them is at a place.
type registers [api.MaxRegs]int

// function of a right program, and what is told of it by the layers below.
type function struct {
	code   []api.Instr
	blocks []api.Block
	live   []int
	parts  []api.Part
	facts  []api.Fact
	met    []bool
	places []int
	owners []int
}

// look at a function; what ssa refuses is refused, and by the other layers alike.
func look(p api.Program, fn int) (function, api.Errno) {
	s, e := ssa.Build(p, fn)
	if e != api.OK {
		return function{}, e
	}
	f := function{code: p.Funcs[fn].Code, parts: s.Parts}
	f.blocks, _ = flow.Blocks(p, fn)
	f.live, _ = flow.Live(p, fn)
	f.facts, f.met, _ = fold.Facts(p, fn)
	f.places, _ = place.Assign(p, fn)
	f.owners = owners(s, f.code)
	return f, api.OK
}

// owners: for each value the register that it is, wherever it is one: no instruction brings a value from one register to another.
func owners(s api.Ssa, code []api.Instr) []int {
	l := make([]int, s.Values)
	for r := range s.Params {
		l[r] = r
	}
	for _, part := range s.Parts {
		for _, phi := range part.Phis {
			l[phi.Id] = phi.Reg
		}
		for _, x := range part.Ins {
			if x.Id != none {
				l[x.Id] = code[x.Pc].Dst
			}
		}
	}
	return l
}

// isKnown: is a value known, so that it is kept nowhere, and made anew wherever it is read?
func (f *function) isKnown(value int) bool { return f.facts[value].Kind == api.Known }

// hasRegister: is a value that is not known kept in a register of the machine, and not in its owner's word of the Data? There one value follows another, but none is wanted any more when its owner is set anew.
func (f *function) hasRegister(value int) bool { return f.places[value] < api.Places }

// sameHome: are two values, of one owner and neither of them known, kept at the same spot?
func (f *function) sameHome(one, other int) bool {
	if f.hasRegister(one) && f.hasRegister(other) {
		return f.places[one] == f.places[other]
	}
	return f.hasRegister(one) == f.hasRegister(other)
}
