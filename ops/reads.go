package ops

import "tierline/api"

// callReads: which of its registers a Call reads, by how many parameters its function has.
var callReads = [api.MaxParams + 1]int{0, A, A | B}

// Reads: those of A and B that an instruction of a well shaped program reads, as bits.
func Reads(p api.Program, x api.Instr) int {
	if x.Op == api.Call {
		return callReads[p.Funcs[x.Imm].Params]
	}
	return Has(x.Op) & (A | B)
}
