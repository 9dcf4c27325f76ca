package emit

import "tierline/api"

// Registers of the machine.
const (
	zero   = 0 // always 0
	fuel   = 5 // what is left of it
	spareA = 6 // what is made in these is read soon
	spareB = 7
)

// homes: which register of the machine is a place for values.
var homes = [api.Places]int{10, 11, 12, 13, 14, 15}

// carriers: for each register of byte code one of the machine in which what comes to its phi is carried.
var carriers = [api.MaxRegs]int{16, 17, 18, 19, 20, 21, 22, 23, 24, 25, 26, 27}

// read a value: the register of the machine in which it is then; the spare one, if it has none of its own.
func (e *emitter) read(value, spare int) int {
	switch {
	case e.isKnown(value):
		e.number(spare, e.facts[value].Value)
	case e.hasRegister(value):
		return homes[e.places[value]]
	default:
		e.load(spare, regsAt+e.owners[value])
	}
	return spare
}

// room: the register of the machine in which a value is to be made.
func (e *emitter) room(value, spare int) int {
	if e.hasRegister(value) {
		return homes[e.places[value]]
	}
	return spare
}

// keep a value that was made in a register of the machine.
func (e *emitter) keep(value, reg int) {
	if !e.hasRegister(value) {
		e.store(reg, regsAt+e.owners[value])
	} else if home := homes[e.places[value]]; home != reg {
		e.more(home, reg, 0)
	}
}

// take registers from the words of the Data: those values that are kept elsewhere.
func (e *emitter) take(regs registers) {
	for r, value := range regs {
		if value != none && !e.isKnown(value) && e.hasRegister(value) {
			e.load(homes[e.places[value]], regsAt+r)
		}
	}
}

// give registers that are live ahead of a place back to the words of the Data: those values that are not kept there.
func (e *emitter) give(regs registers, pc int) {
	for r, value := range regs {
		if isLive(e.live[pc], r) && (e.isKnown(value) || e.hasRegister(value)) {
			e.store(e.read(value, spareA), regsAt+r)
		}
	}
}
