package ops

import "tierline/api"

// Onward: where ways go from the instruction at a place; the function's end may be among these places.
func Onward(x api.Instr, pc int) []int {
	switch x.Op {
	case api.Jump:
		return []int{x.Imm}
	case api.If:
		return []int{pc + 1, x.Imm}
	case api.Ret:
		return nil
	}
	return []int{pc + 1}
}
