package rv_test

import (
	"math"
	"testing"

	"tierline/api"
)

// far: numbers that no field may be, among them such as would fit if their bits above were cut off.
func far() []int {
	return []int{math.MinInt, math.MinInt + 5, -1 << 40, math.MinInt32, math.MaxInt32 - 3, 1 << 32, 1<<32 + 4, 1 << 62, math.MaxInt - 3, math.MaxInt}
}

// TestOps (P11.1): all ops from RAdd to REcall are ops, and nothing else is, whatever else is wrong.
func TestOps(t *testing.T) {
	for op := -3; op <= 40; op++ {
		want := api.ErrKind
		if op >= 1 && op <= 29 {
			want = api.OK
		}
		wantCheck(t, api.Rv{Op: op}, want)
	}
	for _, op := range append(far(), -1, 0, 30, 32, 256+api.RAdd) {
		wantCheck(t, api.Rv{Op: op}, api.ErrKind)
		wantCheck(t, api.Rv{Op: op, Rd: 32, Rs1: -1, Rs2: 99, Imm: math.MinInt}, api.ErrKind)
	}
}

// TestRegisters (P11.1): registers that an op has are from 0 to 31, others are 0.
func TestRegisters(t *testing.T) {
	for _, c := range []struct {
		first, last     int
		rd, rs1, rs2    bool
		least, greatest int
	}{
		{api.RAdd, api.RSltu, true, true, true, 0, 0},
		{api.RAddi, api.RSltiu, true, true, false, -2048, 2047},
		{api.RSlli, api.RSrai, true, true, false, 0, 63},
		{api.RLd, api.RLd, true, true, false, -2048, 2047},
		{api.RSd, api.RSd, false, true, true, -2048, 2047},
		{api.RBeq, api.RBge, false, true, true, -4096, 4092},
		{api.RJal, api.RJal, true, false, false, -1048576, 1048572},
		{api.RJalr, api.RJalr, true, true, false, -2048, 2047},
		{api.RLui, api.RLui, true, false, false, -524288, 524287},
		{api.REcall, api.REcall, false, false, false, 0, 0},
	} {
		for op := c.first; op <= c.last; op++ {
			for _, imm := range []int{c.least, 0, c.greatest} {
				for _, n := range append(far(), -32, -2, -1, 0, 1, 2, 15, 16, 30, 31, 32, 33, 63, 64) {
					wantCheck(t, api.Rv{Op: op, Rd: n, Imm: imm}, registerError(n, c.rd))
					wantCheck(t, api.Rv{Op: op, Rs1: n, Imm: imm}, registerError(n, c.rs1))
					wantCheck(t, api.Rv{Op: op, Rs2: n, Imm: imm}, registerError(n, c.rs2))
				}
			}
		}
	}
}

// registerError: what is said of a register, if the op has it, or does not.
func registerError(n int, has bool) api.Errno {
	if n == 0 || has && n > 0 && n < 32 {
		return api.OK
	}
	return api.ErrRange
}

// TestImm (P11.1): the bounds of Imm, and what divides it.
func TestImm(t *testing.T) {
	for _, c := range []struct {
		ops        []int
		right, not []int
	}{
		{span(api.RAdd, api.RSltu), []int{0}, []int{-2048, -4, -1, 1, 4, 31, 2047}},
		{append(span(api.RAddi, api.RSltiu), api.RLd, api.RJalr), []int{-2048, -2047, -3, -1, 0, 1, 2, 2046, 2047}, []int{-4096, -2050, -2049, 2048, 2049, 4095}},
		{[]int{api.RSlli, api.RSrai}, []int{0, 1, 2, 31, 32, 33, 62, 63}, []int{-64, -2, -1, 64, 65, 127, 1024}},
		{[]int{api.RSd}, []int{-2048, -2047, -1, 0, 1, 7, 2047}, []int{-4096, -2049, 2048, 4095}},
		{span(api.RBeq, api.RBge), []int{-4096, -4092, -2048, -4, 0, 4, 8, 2044, 2048, 4088, 4092}, []int{-8192, -4100, -4098, -4097, -4095, -4094, -4093, -6, -3, -2, -1, 1, 2, 3, 5, 6, 4090, 4091, 4093, 4094, 4095, 4096, 8188}},
		{[]int{api.RJal}, []int{-1048576, -1048572, -4096, -4, 0, 4, 2048, 4096, 1048568, 1048572}, []int{-1048580, -1048578, -1048577, -1048575, -1048574, -2, -1, 1, 2, 3, 1048570, 1048571, 1048573, 1048574, 1048575, 1048576, 2097148}},
		{[]int{api.RLui}, []int{-524288, -524287, -2, -1, 0, 1, 2, 3, 524286, 524287}, []int{-1048576, -524290, -524289, 524288, 524289, 1048575}},
		{[]int{api.REcall}, []int{0}, []int{-4, -1, 1, 4, 115}},
	} {
		for _, op := range c.ops {
			for _, imm := range c.right {
				wantCheck(t, api.Rv{Op: op, Imm: imm}, api.OK)
			}
			for _, imm := range append(far(), c.not...) {
				wantCheck(t, api.Rv{Op: op, Imm: imm}, api.ErrRange)
			}
		}
	}
}
