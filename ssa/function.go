package ssa

import (
	"slices"

	"tierline/api"
	"tierline/flow"
	"tierline/ops"
)

const (
	// none: no value, where a register is not live, or an instruction makes or reads none.
	none = -1
	// unreached: what flow tells of an instruction to which no way leads.
	unreached = -1
	// beginning: what flow tells of a function's beginning, which leads to the first block.
	beginning = -1
)

// registers: which value each of them is.
type registers [api.MaxRegs]int

// function of a right program, and what is told of it by the layers below.
type function struct {
	program api.Program
	params  int
	code    []api.Instr
	blocks  []api.Block
	live    []int
}

// look at a function; what flow refuses is refused.
func look(p api.Program, fn int) (function, api.Errno) {
	blocks, e := flow.Blocks(p, fn)
	if e != api.OK {
		return function{}, e
	}
	live, _ := flow.Live(p, fn)
	return function{p, p.Funcs[fn].Params, p.Funcs[fn].Code, blocks, live}, api.OK
}

// As long as it is not known which phis are left, each value has a number that hangs on nothing but where it is made: a parameter its register, then come those that instructions make, and the phis.

func madeAt(pc int) int { return api.MaxRegs + pc }

func phiAt(block, reg int) int { return api.MaxRegs + api.MaxCode + block*api.MaxRegs + reg }

// parameters: what registers are at the function's beginning.
func (f function) parameters() registers {
	var l registers
	for r := range l {
		l[r] = none
		if r < f.params {
			l[r] = r
		}
	}
	return l
}

// joins: does a block have phis?
func (f function) joins(block int) bool { return len(f.blocks[block].Prev) > 1 }

// from: what registers are at a block's beginning. Going back from blocks to the only ones that lead to them comes to one with phis, or to the function's beginning: a round of such blocks would have no way into it.
func (f function) from(block int) registers {
	if !f.joins(block) {
		return f.behind(f.blocks[block].Prev[0])
	}
	var l registers
	for r := range l {
		l[r] = phiAt(block, r)
	}
	return f.wanted(l, f.blocks[block].From)
}

// behind a block, or the function's beginning: what registers are there.
func (f function) behind(block int) registers {
	if block == beginning {
		return f.parameters()
	}
	return f.on(f.from(block), f.blocks[block].From, f.blocks[block].To)
}

// on from one place of a block to another: what registers come to be.
func (f function) on(l registers, from, to int) registers {
	for pc := from; pc < to; pc++ {
		if x := f.code[pc]; makes(x) {
			l[x.Dst] = madeAt(pc)
		}
	}
	return l
}

func makes(x api.Instr) bool { return ops.Has(x.Op)&ops.Dst != 0 }

// wanted: of what registers are ahead of an instruction only those that are live there.
func (f function) wanted(l registers, pc int) registers {
	for r := range l {
		if f.live[pc]>>r&1 == 0 {
			l[r] = none
		}
	}
	return l
}

// at: what live registers are ahead of a reached instruction, which therefore is in the first block that does not end ahead of it.
func (f function) at(pc int) registers {
	block := slices.IndexFunc(f.blocks, func(b api.Block) bool { return pc < b.To })
	return f.wanted(f.on(f.from(block), f.blocks[block].From, pc), pc)
}

// parts of the function, with all phis.
func (f function) parts() []api.Part {
	l := make([]api.Part, len(f.blocks))
	for b, block := range f.blocks {
		regs := f.from(b)
		l[b] = api.Part{Block: b, Phis: f.phis(b), In: f.wanted(regs, block.From)}
		for pc := block.From; pc < block.To; pc++ {
			l[b].Ins = append(l[b].Ins, f.ins(regs, pc))
			regs = f.on(regs, pc, pc+1)
		}
	}
	return l
}

// phis of a block: of each that leads to it what the registers are behind that one.
func (f function) phis(block int) []api.Phi {
	if !f.joins(block) {
		return nil
	}
	var come []registers
	for _, b := range f.blocks[block].Prev {
		come = append(come, f.behind(b))
	}
	var l []api.Phi
	for r, id := range f.from(block) {
		if id == none {
			continue
		}
		one := api.Phi{Reg: r, Id: id}
		for _, regs := range come {
			one.Args = append(one.Args, regs[r])
		}
		l = append(l, one)
	}
	return l
}

// ins: an instruction that reads these registers.
func (f function) ins(regs registers, pc int) api.Ins {
	x := f.code[pc]
	one := api.Ins{Op: x.Op, Id: none, A: none, B: none, Imm: x.Imm, Pc: pc}
	reads := ops.Reads(f.program, x)
	if reads&ops.A != 0 {
		one.A = regs[x.A]
	}
	if reads&ops.B != 0 {
		one.B = regs[x.B]
	}
	if makes(x) {
		one.Id = madeAt(pc)
	}
	return one
}
