package step

import "tierline/api"

// Make: what an op makes of two numbers, and its own.
func Make(op, a, b, imm int) (int, api.Errno) {
	switch op {
	case api.Set:
		return imm, api.OK
	case api.Add:
		return a + b, api.OK
	case api.Sub:
		return a - b, api.OK
	case api.Mul:
		return a * b, api.OK
	case api.Div:
		return divide(a, b)
	case api.And:
		return a & b, api.OK
	case api.Or:
		return a | b, api.OK
	case api.Xor:
		return a ^ b, api.OK
	case api.Shl:
		return a << shift(b), api.OK
	case api.Sar:
		return a >> shift(b), api.OK
	case api.Lt:
		return truth(a < b), api.OK
	case api.Eq:
		return truth(a == b), api.OK
	}
	return 0, api.ErrKind
}

func divide(a, b int) (int, api.Errno) {
	if b == 0 {
		return 0, api.ErrNone
	}
	return a / b, api.OK
}

// shift: only the lowest six bits of a number say by how many.
func shift(b int) int { return b & 63 }

// truth as a number.
func truth(holds bool) int {
	if holds {
		return 1
	}
	return 0
}
