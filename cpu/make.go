package cpu

import "tierline/api"

// made by an op from RAdd to RSrai of Rs1, and of Rs2 or Imm.
func made(x api.Rv, a, b int) int {
	if x.Op >= api.RAddi {
		b = x.Imm
	}
	switch x.Op {
	case api.RAdd, api.RAddi:
		return a + b
	case api.RSub:
		return a - b
	case api.RMul:
		return a * b
	case api.RDiv:
		return divided(a, b)
	case api.RAnd, api.RAndi:
		return a & b
	case api.ROr, api.ROri:
		return a | b
	case api.RXor, api.RXori:
		return a ^ b
	case api.RSll, api.RSlli:
		return a << shift(b)
	case api.RSra, api.RSrai:
		return a >> shift(b)
	case api.RSlt, api.RSlti:
		return truth(a < b)
	}
	// RSltu and RSltiu are left.
	return truth(uint64(a) < uint64(b))
}

// divided: the machine goes on where byte code would stop.
func divided(a, b int) int {
	if b == 0 {
		return -1
	}
	return a / b
}

// shift: only the lowest six bits of a number say by how many.
func shift(b int) int { return b & 63 }

// truth as a number.
func truth(holds bool) int {
	if holds {
		return 1
	}
	return 0
}

// holds: does an op from RBeq to RBge go to its target with these numbers?
func holds(op, a, b int) bool {
	switch op {
	case api.RBeq:
		return a == b
	case api.RBne:
		return a != b
	case api.RBlt:
		return a < b
	}
	// RBge is left.
	return a >= b
}
