package emit

import (
	"slices"

	"tierline/api"
	"tierline/flow"
	"tierline/step"
)

// far: goes on from a state, block by block. Each block that goes on to another takes from the fuel, so that it comes to an end. An instruction that cannot be done changes the status, and nothing else.
func far(p api.Program, s api.State) api.State {
	fn := last(s).Fn
	blocks, _ := flow.Blocks(p, fn)
	for {
		b := begun(blocks, last(s).Pc)
		if b == none {
			return s
		}
		n := steps(p.Funcs[fn].Code, blocks[b])
		if s.Fuel < n {
			return s
		}
		s, _ = step.Walk(p, s, n)
		if s.Status != api.Running || n < blocks[b].To-blocks[b].From {
			return s
		}
	}
}

// begun: the block that begins at a place; none, if no block does.
func begun(blocks []api.Block, pc int) int {
	return slices.IndexFunc(blocks, func(b api.Block) bool { return b.From == pc })
}

// steps of a block that machine code does: all, but for one at its end that it leaves to byte code.
func steps(code []api.Instr, b api.Block) int {
	n := b.To - b.From
	if leaves(code[b.To-1].Op) {
		n--
	}
	return n
}

// leaves: is an op left to byte code?
func leaves(op int) bool { return op == api.Call || op == api.Host || op == api.Ret }
