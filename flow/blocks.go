package flow

import (
	"slices"

	"tierline/api"
	"tierline/ops"
	"tierline/proof"
)

// noBlock: the function's beginning, which leads to the first block, and is all that stands above it.
const noBlock = -1

func endsBlock(op int) bool {
	switch op {
	case api.Jump, api.If, api.Call, api.Host, api.Ret:
		return true
	}
	return false
}

// blocks of a function of a right program, which proof does not refuse.
func blocks(p api.Program, fn int) []api.Block {
	code := p.Funcs[fn].Code
	sure, _ := proof.Sure(p, fn)
	begins := begun(code, sure)
	l := make([]api.Block, len(begins))
	for from, b := range begins {
		l[b].From, l[b].To = from, end(code, from, begins)
	}
	lead(l, code, begins)
	return l
}

// begun: where blocks begin: by place, which block it is. No place is the function's end, as no way of a right program leads there.
func begun(code []api.Instr, sure []int) map[int]int {
	begins := map[int]int{0: 0}
	for pc, x := range code {
		if sure[pc] >= 0 && endsBlock(x.Op) {
			for _, to := range ops.Onward(x, pc) {
				begins[to] = 0
			}
		}
	}
	n := 0
	for pc := range code {
		if _, ok := begins[pc]; ok {
			begins[pc] = n
			n++
		}
	}
	return begins
}

// end of the block that begins at a place: behind its last instruction.
func end(code []api.Instr, from int, begins map[int]int) int {
	to := from + 1
	for !endsBlock(code[to-1].Op) {
		if _, ok := begins[to]; ok {
			break
		}
		to++
	}
	return to
}

// lead blocks to one another, rising and each once: whom an earlier block leads to hears of it first.
func lead(l []api.Block, code []api.Instr, begins map[int]int) {
	l[0].Prev = []int{noBlock}
	for b := range l {
		last := l[b].To - 1
		for _, to := range ops.Onward(code[last], last) {
			l[b].Next = append(l[b].Next, begins[to])
		}
		slices.Sort(l[b].Next)
		l[b].Next = slices.Compact(l[b].Next)
		for _, next := range l[b].Next {
			l[next].Prev = append(l[next].Prev, b)
		}
	}
}
