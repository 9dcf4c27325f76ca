package proof

import (
	"tierline/api"
	"tierline/ops"
)

// callReads: which of its registers a Call reads, by how many parameters its function has.
var callReads = [api.MaxParams + 1]int{0, ops.A, ops.A | ops.B}

// partsRead of an instruction: those of A and B that it reads.
func partsRead(p api.Program, x api.Instr) int {
	if x.Op == api.Call {
		return callReads[p.Funcs[x.Imm].Params]
	}
	return ops.Has(x.Op) & (ops.A | ops.B)
}

func readBits(p api.Program, x api.Instr) int {
	parts, bits := partsRead(p, x), 0
	if parts&ops.A != 0 {
		bits |= 1 << x.A
	}
	if parts&ops.B != 0 {
		bits |= 1 << x.B
	}
	return bits
}

// setBit of the register that an instruction sets; 0: it sets none.
func setBit(x api.Instr) int {
	if ops.Has(x.Op)&ops.Dst == 0 {
		return 0
	}
	return 1 << x.Dst
}
