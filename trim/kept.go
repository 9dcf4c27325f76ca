package trim

import (
	"tierline/api"
	"tierline/ops"
	"tierline/proof"
)

// gone: where a place or function goes that is not kept.
const gone = -1

// reached places of a function of a right program, which proof does not refuse.
func reached(p api.Program, fn int) []bool {
	sure, _ := proof.Sure(p, fn)
	l := make([]bool, len(sure))
	for pc, bits := range sure {
		l[pc] = bits >= 0
	}
	return l
}

// where: for each of them, how many ahead of it are kept; gone, if it is not kept itself.
func where(kept []bool) []int {
	l := make([]int, len(kept))
	n := 0
	for i, keep := range kept {
		l[i] = gone
		if keep {
			l[i] = n
			n++
		}
	}
	return l
}

func called(p api.Program) []bool {
	l := make([]bool, len(p.Funcs))
	for work := []int{0}; len(work) > 0; {
		fn := work[len(work)-1]
		work = work[:len(work)-1]
		if !l[fn] {
			l[fn] = true
			work = append(work, calls(p, fn)...)
		}
	}
	return l
}

// calls of a function: whom its reached instructions call.
func calls(p api.Program, fn int) []int {
	var l []int
	for pc, reach := range reached(p, fn) {
		if x := p.Funcs[fn].Code[pc]; reach && x.Op == api.Call {
			l = append(l, x.Imm)
		}
	}
	return l
}

// moved: the instructions that are not gone. What they lead to, and whom they call, is not gone either, as it is reached and called by them.
func moved(code []api.Instr, places, funcs []int) []api.Instr {
	var l []api.Instr
	for pc, x := range code {
		if places[pc] == gone {
			continue
		}
		switch has := ops.Has(x.Op); {
		case has&ops.Target != 0:
			x.Imm = places[x.Imm]
		case has&ops.Function != 0:
			x.Imm = funcs[x.Imm]
		}
		l = append(l, x)
	}
	return l
}
