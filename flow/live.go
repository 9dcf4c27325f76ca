package flow

import (
	"tierline/api"
	"tierline/ops"
	"tierline/proof"
)

// unreached: what is told of an instruction to which no way leads.
const unreached = -1

// live registers ahead of each instruction of a right program's function, as bits. Bits only ever come, so the rounds come to an end.
func live(p api.Program, fn int) []int {
	sure, _ := proof.Sure(p, fn)
	l := make([]int, len(sure))
	for pc := range l {
		if sure[pc] < 0 {
			l[pc] = unreached
		}
	}
	reads, sets := touched(p, fn)
	for again := true; again; {
		again = false
		for pc := len(l) - 1; pc >= 0; pc-- {
			if l[pc] == unreached {
				continue
			}
			ahead := reads[pc] | wanted(l, p.Funcs[fn].Code[pc], pc)&^sets[pc]
			again = again || ahead != l[pc]
			l[pc] = ahead
		}
	}
	return l
}

// touched: for each instruction what it reads, and what it sets.
func touched(p api.Program, fn int) (reads, sets []int) {
	for pc := range p.Funcs[fn].Code {
		read, set, _ := proof.Reads(p, fn, pc)
		reads, sets = append(reads, read), append(sets, set)
	}
	return reads, sets
}

// wanted behind a reached instruction: what is live wherever ways go from it, which is reached too.
func wanted(l []int, x api.Instr, pc int) int {
	bits := 0
	for _, to := range ops.Onward(x, pc) {
		bits |= l[to]
	}
	return bits
}
