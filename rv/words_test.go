package rv_test

import (
	"math"
	"testing"

	"tierline/api"
	"tierline/rv"
)

// TestExamples (P11.2): the chapter's examples.
func TestExamples(t *testing.T) {
	wantWord(t, api.Rv{Op: api.RAddi, Rd: 5, Imm: -1}, 4293919379)
	wantWord(t, api.Rv{Op: api.REcall}, 115)
}

// TestWords (P11.2, P11.3): words of instructions, worked out by hand.
func TestWords(t *testing.T) {
	for _, c := range []struct {
		x    api.Rv
		word int
	}{
		{api.Rv{Op: api.RAdd, Rd: 1, Rs1: 2, Rs2: 3}, 0x003100b3},
		{api.Rv{Op: api.RSub, Rd: 1, Rs1: 2, Rs2: 3}, 0x403100b3},
		{api.Rv{Op: api.RMul, Rd: 1, Rs1: 2, Rs2: 3}, 0x023100b3},
		{api.Rv{Op: api.RDiv, Rd: 1, Rs1: 2, Rs2: 3}, 0x023140b3},
		{api.Rv{Op: api.RAnd, Rd: 1, Rs1: 2, Rs2: 3}, 0x003170b3},
		{api.Rv{Op: api.ROr, Rd: 1, Rs1: 2, Rs2: 3}, 0x003160b3},
		{api.Rv{Op: api.RXor, Rd: 1, Rs1: 2, Rs2: 3}, 0x003140b3},
		{api.Rv{Op: api.RSll, Rd: 1, Rs1: 2, Rs2: 3}, 0x003110b3},
		{api.Rv{Op: api.RSra, Rd: 1, Rs1: 2, Rs2: 3}, 0x403150b3},
		{api.Rv{Op: api.RSlt, Rd: 1, Rs1: 2, Rs2: 3}, 0x003120b3},
		{api.Rv{Op: api.RSltu, Rd: 1, Rs1: 2, Rs2: 3}, 0x003130b3},
		{api.Rv{Op: api.RSltu, Rd: 31, Rs1: 31, Rs2: 31}, 0x01ffbfb3},
		{api.Rv{Op: api.RSra, Rd: 31, Rs1: 31, Rs2: 31}, 0x41ffdfb3},
		{api.Rv{Op: api.RAdd}, 0x00000033},
		{api.Rv{Op: api.RAddi}, 0x00000013},
		{api.Rv{Op: api.RAddi, Rd: 1, Rs1: 2, Imm: 1}, 0x00110093},
		{api.Rv{Op: api.RAndi, Rd: 1, Rs1: 2, Imm: 2}, 0x00217093},
		{api.Rv{Op: api.ROri, Rd: 1, Rs1: 2, Imm: 4}, 0x00416093},
		{api.Rv{Op: api.RXori, Rd: 1, Rs1: 2, Imm: -1}, 0xfff14093},
		{api.Rv{Op: api.RSlti, Rd: 1, Rs1: 2, Imm: -2048}, 0x80012093},
		{api.Rv{Op: api.RSltiu, Rd: 1, Rs1: 2, Imm: 2047}, 0x7ff13093},
		{api.Rv{Op: api.RAddi, Rd: 31, Rs1: 31, Imm: -1}, 0xffff8f93},
		{api.Rv{Op: api.RSlli, Rd: 1, Rs1: 2, Imm: 1}, 0x00111093},
		{api.Rv{Op: api.RSlli, Rd: 1, Rs1: 2, Imm: 63}, 0x03f11093},
		{api.Rv{Op: api.RSrai, Rd: 1, Rs1: 2}, 0x40015093},
		{api.Rv{Op: api.RSrai, Rd: 1, Rs1: 2, Imm: 32}, 0x42015093},
		{api.Rv{Op: api.RSrai, Rd: 1, Rs1: 2, Imm: 63}, 0x43f15093},
		{api.Rv{Op: api.RLd, Rd: 1, Rs1: 2, Imm: 8}, 0x00813083},
		{api.Rv{Op: api.RLd, Rd: 1, Rs1: 2, Imm: -8}, 0xff813083},
		{api.Rv{Op: api.RJalr, Rd: 1, Rs1: 2, Imm: 3}, 0x003100e7},
		{api.Rv{Op: api.RJalr, Rs1: 1}, 0x00008067},
		{api.Rv{Op: api.RSd, Rs1: 2, Rs2: 3, Imm: 8}, 0x00313423},
		{api.Rv{Op: api.RSd, Rs1: 2, Rs2: 3, Imm: -8}, 0xfe313c23},
		{api.Rv{Op: api.RSd, Rs1: 2, Rs2: 3, Imm: 31}, 0x00313fa3},
		{api.Rv{Op: api.RSd, Rs1: 2, Rs2: 3, Imm: 32}, 0x02313023},
		{api.Rv{Op: api.RSd, Rs1: 2, Rs2: 3, Imm: -2048}, 0x80313023},
		{api.Rv{Op: api.RBeq, Rs1: 1, Rs2: 2, Imm: 8}, 0x00208463},
		{api.Rv{Op: api.RBne, Rs1: 1, Rs2: 2, Imm: -4}, 0xfe209ee3},
		{api.Rv{Op: api.RBlt, Rs1: 1, Rs2: 2, Imm: 2048}, 0x0020c0e3},
		{api.Rv{Op: api.RBlt, Rs1: 1, Rs2: 2, Imm: 32}, 0x0220c063},
		{api.Rv{Op: api.RBge, Rs1: 1, Rs2: 2, Imm: -4096}, 0x8020d063},
		{api.Rv{Op: api.RBge, Rs1: 1, Rs2: 2, Imm: 4092}, 0x7e20dee3},
		{api.Rv{Op: api.RJal, Rd: 1, Imm: 4}, 0x004000ef},
		{api.Rv{Op: api.RJal, Rd: 1, Imm: 2048}, 0x001000ef},
		{api.Rv{Op: api.RJal, Rd: 1, Imm: 4096}, 0x000010ef},
		{api.Rv{Op: api.RJal, Rd: 1, Imm: -4}, 0xffdff0ef},
		{api.Rv{Op: api.RJal, Imm: -1048576}, 0x8000006f},
		{api.Rv{Op: api.RJal, Imm: 1048572}, 0x7fdff06f},
		{api.Rv{Op: api.RLui, Rd: 5, Imm: 1}, 0x000012b7},
		{api.Rv{Op: api.RLui, Rd: 5, Imm: -1}, 0xfffff2b7},
		{api.Rv{Op: api.RLui, Rd: 5, Imm: -524288}, 0x800002b7},
		{api.Rv{Op: api.RLui, Rd: 31, Imm: 524287}, 0x7fffffb7},
	} {
		wantWord(t, c.x, c.word)
	}
}

// TestNone (P11.3): words that are no instruction's, mostly one bit away from one, and what is no word.
func TestNone(t *testing.T) {
	for _, w := range []int{
		0, 1, 0x7f, 0xffffffff, 0x80000000,
		0x00000032,             // RAdd without its lowest bit
		0x403110b3,             // RSll, and 32 above
		0x003150b3,             // RSra without the 32
		0x023110b3,             // RSll, and 1 above
		0x023160b3, 0x023170b3, // ROr and RAnd, and 1 above
		0x423100b3,             // RMul, and 32 above
		0x043100b3, 0x803100b3, // RAdd, and other bits above
		0x04111093, 0x40111093, 0x80111093, // RSlli with bits above
		0x00015093, 0x44015093, 0xc0015093, // RSrai without the 16, and with more
		0x00811083, 0x00810083, 0x00814083, // RLd, but for 12 to 14
		0x00312423, 0x00317423, // RSd, but for 12 to 14
		0x0020a463, 0x0020b463, 0x0020e463, 0x0020f463, // RBeq, but for 12 to 14
		0x00208563, 0xfe208fe3, // RBeq with an Imm that 4 does not divide
		0x002000ef, 0xfffff0ef, // RJal with an Imm that 4 does not divide
		0x003110e7, 0x003170e7, // RJalr, but for 12 to 14
		0x00001297, 0x00000017, // RLui, but for one bit
		0x000000f3, 0x00001073, 0x00008073, 0x00100073, 0x80000073, // REcall, and a bit more
	} {
		wantNone(t, w, api.ErrKind)
	}
	for _, w := range []int{-1, -115, -1 << 31, -1 << 32, math.MinInt, math.MinInt + 115, 1 << 32, 1<<32 + 115, 1 << 33, math.MaxInt32<<32 + 0x13, math.MaxInt} {
		wantNone(t, w, api.ErrRange)
	}
}

// TestRefused (P11.2): no word comes of what Check refuses.
func TestRefused(t *testing.T) {
	for _, c := range []struct {
		x    api.Rv
		want api.Errno
	}{
		{api.Rv{}, api.ErrKind},
		{api.Rv{Op: 30, Rd: 1}, api.ErrKind},
		{api.Rv{Op: -1}, api.ErrKind},
		{api.Rv{Op: api.RAdd, Rd: 32}, api.ErrRange},
		{api.Rv{Op: api.RAddi, Imm: 2048}, api.ErrRange},
		{api.Rv{Op: api.RSlli, Imm: -1}, api.ErrRange},
		{api.Rv{Op: api.RBeq, Imm: 2}, api.ErrRange},
		{api.Rv{Op: api.RJal, Rs1: 1}, api.ErrRange},
		{api.Rv{Op: api.REcall, Rd: 1}, api.ErrRange},
	} {
		if w, e := rv.Encode(c.x); w != 0 || e != c.want {
			t.Errorf("Encode(%v): %d %v, want %v", c.x, w, e, c.want)
		}
	}
}
