package proof

import (
	"slices"

	"tierline/api"
	"tierline/ops"
)

// unreached has all bits, so that it needs no case of its own: a place's first way cuts it down as each later one does, an unreached place cuts down none, and what is read there does not count as unset.
const unreached = -1

// sure: for each place, and for the function's end, which registers are set on each way to it, as bits. Bits only ever fall, so the rounds come to an end.
func sure(f api.Func) (places []int, end int) {
	l := slices.Repeat([]int{unreached}, len(f.Code)+1)
	l[0] = 1<<f.Params - 1
	for again := true; again; {
		again = cutDown(l, f)
	}
	return l[:len(f.Code):len(f.Code)], l[len(f.Code)]
}

// cutDown: one round over all places, each of which leaves to those that it leads to only what is set on its own ways; must another round follow?
func cutDown(l []int, f api.Func) bool {
	again := false
	for pc, x := range f.Code {
		for _, to := range ops.Onward(x, pc) {
			left := l[to] & (l[pc] | setBit(x))
			again = again || left != l[to]
			l[to] = left
		}
	}
	return again
}
