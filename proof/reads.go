package proof

import (
	"tierline/api"
	"tierline/ops"
)

func readBits(p api.Program, x api.Instr) int {
	parts, bits := ops.Reads(p, x), 0
	if parts&ops.A != 0 {
		bits |= 1 << x.A
	}
	if parts&ops.B != 0 {
		bits |= 1 << x.B
	}
	return bits
}

// setBit of the register that an instruction sets; 0: it sets none.
func setBit(x api.Instr) int {
	if ops.Has(x.Op)&ops.Dst == 0 {
		return 0
	}
	return 1 << x.Dst
}
