package cpu_test

import (
	"math"
	"testing"

	"tierline/api"
	"tierline/drawn"
)

// wantMake: an op makes a number of two others, wherever it stands, and whichever register Rd is, and touches nothing else. An op that takes Imm takes the second number from there.
func wantMake(t *testing.T, op, a, b, want int) {
	t.Helper()
	x := api.Rv{Op: op, Rs1: 5, Rs2: 6}
	if _, ok := byImm[op]; ok {
		x.Rs2, x.Imm = 0, b
	}
	for _, rd := range []int{0, 5, 6, 7, 31} {
		x.Rd = rd
		for _, ws := range [][]int{words(t, x), {0, -1, word(t, x), 0}} {
			pc := min(2, len(ws)-1)
			c := at(with(filled(), map[int]int{5: a, 6: b}), pc)
			wantStep(t, ws, c, at(with(c, map[int]int{rd: want}), pc+1))
		}
	}
}

// TestMake (P12.2): what each op makes of two registers, and what is cut off above.
func TestMake(t *testing.T) {
	for _, c := range []struct{ op, a, b, want int }{
		{api.RAdd, 2, 3, 5},
		{api.RAdd, math.MaxInt, 1, math.MinInt},
		{api.RAdd, math.MaxInt32, 1, 1 << 31},
		{api.RSub, 2, 3, -1},
		{api.RSub, math.MinInt, 1, math.MaxInt},
		{api.RMul, -2, 3, -6},
		{api.RMul, 1 << 32, 1 << 32, 0},
		{api.RMul, math.MinInt, -1, math.MinInt},
		{api.RDiv, 7, 2, 3},
		{api.RDiv, -7, 2, -3},
		{api.RDiv, 7, -2, -3},
		{api.RDiv, -7, -2, 3},
		{api.RDiv, 7, 0, -1},
		{api.RDiv, -7, 0, -1},
		{api.RDiv, 0, 0, -1},
		{api.RDiv, math.MinInt, 0, -1},
		{api.RDiv, math.MinInt, -1, math.MinInt},
		{api.RAnd, 12, 10, 8},
		{api.RAnd, -1, math.MinInt, math.MinInt},
		{api.ROr, 12, 10, 14},
		{api.RXor, 12, 10, 6},
		{api.RXor, -1, math.MinInt, math.MaxInt},
		{api.RSll, 1, 4, 16},
		{api.RSll, 1, 63, math.MinInt},
		{api.RSll, 1, 64, 1},
		{api.RSll, 1, -1, math.MinInt},
		{api.RSll, 3, math.MinInt, 3},
		{api.RSra, -7, 1, -4},
		{api.RSra, math.MinInt, 63, -1},
		{api.RSra, -8, 65, -4},
		{api.RSra, -8, -63, -4},
		{api.RSlt, 1, 2, 1},
		{api.RSlt, 2, 2, 0},
		{api.RSlt, -1, 0, 1},
		{api.RSlt, 0, -1, 0},
		{api.RSlt, math.MinInt, math.MaxInt, 1},
		{api.RSltu, 1, 2, 1},
		{api.RSltu, 2, 2, 0},
		{api.RSltu, -1, 0, 0},
		{api.RSltu, 0, -1, 1},
		{api.RSltu, -2, -1, 1},
		{api.RSltu, math.MinInt, math.MaxInt, 0},
		{api.RSltu, math.MaxInt, math.MinInt, 1},
	} {
		wantMake(t, c.op, c.a, c.b, c.want)
	}
}

// TestMakeImm (P12.2): what each op makes of a register and Imm.
func TestMakeImm(t *testing.T) {
	for _, c := range []struct{ op, a, imm, want int }{
		{api.RAddi, 2, 3, 5},
		{api.RAddi, 2, -2048, -2046},
		{api.RAddi, math.MaxInt, 2047, math.MinInt + 2046},
		{api.RAddi, math.MinInt, -1, math.MaxInt},
		{api.RAndi, 12, 10, 8},
		{api.RAndi, math.MinInt + 5, -1, math.MinInt + 5},
		{api.RAndi, 5000, -2048, 4096},
		{api.ROri, 12, 10, 14},
		{api.ROri, 0, -2048, -2048},
		{api.RXori, 12, 10, 6},
		{api.RXori, math.MaxInt, -1, math.MinInt},
		{api.RSlti, 1, 2, 1},
		{api.RSlti, 2, 2, 0},
		{api.RSlti, -2048, -2047, 1},
		{api.RSlti, 0, -1, 0},
		{api.RSltiu, 0, 1, 1},
		{api.RSltiu, 1, 1, 0},
		{api.RSltiu, -1, 1, 0},
		{api.RSltiu, 0, -1, 1},
		{api.RSltiu, -1, -1, 0},
		{api.RSltiu, math.MaxInt, -2048, 1},
		{api.RSltiu, -2049, -2048, 1},
		{api.RSlli, 1, 4, 16},
		{api.RSlli, 1, 63, math.MinInt},
		{api.RSlli, -1, 0, -1},
		{api.RSlli, -1, 32, -1 << 32},
		{api.RSrai, -7, 1, -4},
		{api.RSrai, -7, 0, -7},
		{api.RSrai, math.MinInt, 63, -1},
		{api.RSrai, math.MaxInt, 32, math.MaxInt32},
	} {
		wantMake(t, c.op, c.a, c.imm, c.want)
	}
}

// TestMakeEach (P12.2): all ops at the bounds and at drawn numbers, held against numbers without bounds.
func TestMakeEach(t *testing.T) {
	d := drawn.Die(121)
	l := edges
	for range 12 {
		l = append(l, int(d.Bits())>>d.Below(64))
	}
	for op := api.RAdd; op <= api.RSltu; op++ {
		for _, a := range l {
			for _, b := range l {
				wantMake(t, op, a, b, toldMake(op, a, b))
			}
		}
	}
	for op, same := range byImm {
		imms := []int{-2048, -2047, -64, -1, 0, 1, 63, 64, 2046, 2047}
		if op == api.RSlli || op == api.RSrai {
			imms = []int{0, 1, 7, 31, 32, 62, 63}
		}
		for _, a := range l {
			for _, imm := range imms {
				wantMake(t, op, a, imm, toldMake(same, a, imm))
			}
		}
	}
}

// TestLui (P12.2): Rd is Imm times 4096.
func TestLui(t *testing.T) {
	for imm, want := range map[int]int{0: 0, 1: 4096, -1: -4096, 524287: 2147479552, -524288: -2147483648} {
		for _, rd := range []int{0, 1, 31} {
			wantStep(t, words(t, api.Rv{Op: api.RLui, Rd: rd, Imm: imm}), filled(), at(with(filled(), map[int]int{rd: want}), 1))
		}
	}
}

// TestNought (P12.1): the register 0 is read as 0, whatever is handed in.
func TestNought(t *testing.T) {
	c := with(filled(), map[int]int{0: 77, 5: 40})
	c.Data[0] = 8
	for _, s := range []struct {
		x    api.Rv
		want int
	}{
		{api.Rv{Op: api.RAdd, Rd: 7, Rs1: 0, Rs2: 5}, 40},
		{api.Rv{Op: api.RSub, Rd: 7, Rs1: 5, Rs2: 0}, 40},
		{api.Rv{Op: api.RDiv, Rd: 7, Rs1: 5, Rs2: 0}, -1},
		{api.Rv{Op: api.RAddi, Rd: 7, Rs1: 0, Imm: -3}, -3},
		{api.Rv{Op: api.RLd, Rd: 7, Rs1: 0, Imm: 0}, 8},
	} {
		wantStep(t, words(t, s.x), c, at(with(c, map[int]int{7: s.want}), 1))
	}
	stored := at(c, 1)
	stored.Data[3] = 0
	wantStep(t, words(t, api.Rv{Op: api.RSd, Imm: 24}), c, stored)
	wantStep(t, words(t, api.Rv{Op: api.RBlt, Rs1: 0, Rs2: 5, Imm: 40}), c, at(c, 10))
	wantStep(t, words(t, api.Rv{Op: api.RJalr, Imm: 16}), c, at(c, 4))
	// What is made there is gone at the next step.
	ws := words(t, api.Rv{Op: api.RAddi, Imm: 9}, api.Rv{Op: api.RAdd, Rd: 7}, api.Rv{Op: api.REcall})
	wantRun(t, ws, c, 3, at(with(api.Cpu{Regs: c.Regs, Data: c.Data, Halted: true}, map[int]int{7: 0}), 2))
}
