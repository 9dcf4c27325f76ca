package emit

import (
	"slices"

	"tierline/api"
)

// block of a function, from where its phis are what they are.
func (e *emitter) block(b int) {
	e.stand(e.bodies[b])
	regs := registers(e.parts[b].In)
	n := steps(e.code, e.blocks[b])
	if n > 0 {
		e.pay(n, exit{pc: e.blocks[b].From, regs: regs})
	}
	for i, x := range e.parts[b].Ins[:n] {
		e.instruction(x, exit{pc: x.Pc, regs: regs, back: n - i})
		if x.Id != none {
			regs[e.owners[x.Id]] = x.Id
		}
	}
	e.end(b, regs)
}

// pay for all steps of a block ahead of the first one, or leave there.
func (e *emitter) pay(steps int, x exit) {
	e.number(spareA, steps)
	e.unless(api.RBge, fuel, spareA, e.exit(x))
	e.more(fuel, fuel, -steps)
}

// end of a block, where the registers are these.
func (e *emitter) end(b int, regs registers) {
	to := e.blocks[b].To
	x := e.parts[b].Ins[to-1-e.blocks[b].From]
	switch {
	case leaves(x.Op):
		e.leave(exit{pc: x.Pc, regs: regs})
	case x.Op == api.Jump:
		e.goOn(b, x.Imm)
	case x.Op == api.If:
		e.branch(b, x)
	default:
		e.goOn(b, to)
	}
}

// branch: an If at the end of a block. A way that is never gone has no lines, as the block there may have none.
func (e *emitter) branch(b int, x api.Ins) {
	next := x.Pc + 1
	switch fact := e.facts[x.A]; {
	case fact.Kind == api.Never:
		// Nothing comes to the If.
	case fact.Kind == api.Many:
		not := e.label()
		e.unless(api.RBne, e.read(x.A, spareA), zero, not)
		e.goOn(b, x.Imm)
		e.stand(not)
		e.goOn(b, next)
	case fact.Value != 0:
		e.goOn(b, x.Imm)
	default:
		e.goOn(b, next)
	}
}

// goOn from a block to the one that begins at a place. What comes to its phis is carried there all at a time, as the home of one may hold what comes to another.
func (e *emitter) goOn(from, pc int) {
	to := begun(e.blocks, pc)
	way := slices.Index(e.blocks[to].Prev, from)
	var moved []api.Phi
	for _, phi := range e.parts[to].Phis {
		if e.moves(phi.Id, phi.Args[way]) {
			moved = append(moved, phi)
		}
	}
	for _, phi := range moved {
		e.carry(phi.Args[way], carriers[phi.Reg])
	}
	for _, phi := range moved {
		e.keep(phi.Id, carriers[phi.Reg])
	}
	e.jump(e.bodies[to])
}

// moves: must something be done, so that a phi is what comes to it?
func (e *emitter) moves(phi, arg int) bool {
	return !e.isKnown(phi) && (e.isKnown(arg) || !e.sameHome(phi, arg))
}

// carry a value in a register of the machine.
func (e *emitter) carry(value, carrier int) {
	if reg := e.read(value, carrier); reg != carrier {
		e.more(carrier, reg, 0)
	}
}
