package emit

import "tierline/api"

// emitter of a function: its lines so far, where each block's begin, and exits whose lines are still to come.
type emitter struct {
	function
	lines
	bodies []label
	exits  []exit
}

// exit: at which place, and with which registers, machine code leaves, and how much fuel goes back that was taken ahead.
type exit struct {
	from label
	pc   int
	regs registers
	back int
}

// wordsOf a function. Blocks that are not met are never come to, and have none.
func wordsOf(f function) []int {
	e := &emitter{function: f}
	for range e.blocks {
		e.bodies = append(e.bodies, e.label())
	}
	e.enter()
	for b := range e.blocks {
		if e.met[b] {
			e.block(b)
		}
	}
	for _, x := range e.exits {
		e.stand(x.from)
		e.leave(x)
	}
	return e.words()
}

// enter: to the block that begins at the state's place; is there none, it leaves with all as it was.
func (e *emitter) enter() {
	e.load(fuel, fuelAt)
	e.load(spareA, placeAt)
	for b, block := range e.blocks {
		if !e.met[b] {
			continue
		}
		another := e.label()
		e.number(spareB, block.From)
		e.unless(api.RBeq, spareA, spareB, another)
		e.take(e.parts[b].In)
		e.jump(e.bodies[b])
		e.stand(another)
	}
	e.add(api.Rv{Op: api.REcall})
}

// exit that is led to: its lines come behind all blocks.
func (e *emitter) exit(x exit) label {
	x.from = e.label()
	e.exits = append(e.exits, x)
	return x.from
}

// leave: the machine stops, and its Data tell the state.
func (e *emitter) leave(x exit) {
	e.give(x.regs, x.pc)
	e.more(fuel, fuel, x.back)
	e.store(fuel, fuelAt)
	e.number(spareA, x.pc)
	e.store(spareA, placeAt)
	e.add(api.Rv{Op: api.REcall})
}
