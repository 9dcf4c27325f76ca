// Package ops: what each op of byte code has, what an instruction reads of that, and where ways go on from it. It stands apart from packages code and proof, as several layers ask for the same, and what those export is fixed.
package ops

import "tierline/api"

// Parts that an instruction may have, as bits.
const (
	Dst = 1 << iota
	A
	B
	Number
	Target
	Function
)

// Each op has some part, so that a nought tells that there is no such op.
var parts = [api.Ret + 1]int{
	api.Set:   Dst | Number,
	api.Add:   Dst | A | B,
	api.Sub:   Dst | A | B,
	api.Mul:   Dst | A | B,
	api.Div:   Dst | A | B,
	api.And:   Dst | A | B,
	api.Or:    Dst | A | B,
	api.Xor:   Dst | A | B,
	api.Shl:   Dst | A | B,
	api.Sar:   Dst | A | B,
	api.Lt:    Dst | A | B,
	api.Eq:    Dst | A | B,
	api.Load:  Dst | A,
	api.Store: A | B,
	api.Jump:  Target,
	api.If:    A | Target,
	api.Call:  Dst | A | B | Function,
	api.Host:  Dst | A,
	api.Ret:   A,
}

// Has: the parts of an op, as bits; 0: there is no such op.
func Has(op int) int {
	if op < 0 || op >= len(parts) {
		return 0
	}
	return parts[op]
}
