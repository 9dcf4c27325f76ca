package cpu_test

import (
	"math"
	"testing"

	"tierline/api"
)

// base: three words, of which the last one is an instruction's, the others are none, and a machine that is at that.
func base(t *testing.T, x api.Rv) ([]int, api.Cpu) {
	t.Helper()
	return []int{0, -1, word(t, x)}, at(filled(), 2)
}

// TestData (P12.1, P12.2): the word n of the data is at the address 8n.
func TestData(t *testing.T) {
	for n := range api.Data {
		for _, imm := range []int{-2048, -8, -1, 0, 1, 4, 8, 2047} {
			ws, c := base(t, api.Rv{Op: api.RLd, Rd: 7, Rs1: 5, Imm: imm})
			c.Regs[5] = 8*n - imm
			wantStep(t, ws, c, at(with(c, map[int]int{7: 2000 + n}), 3))
			ws, c = base(t, api.Rv{Op: api.RSd, Rs1: 5, Rs2: 7, Imm: imm})
			c.Regs[5], c.Regs[7] = 8*n-imm, math.MinInt+n
			want := at(c, 3)
			want.Data[n] = math.MinInt + n
			wantStep(t, ws, c, want)
		}
	}
}

// TestDataSame (P12.2): what registers were ahead of the step counts, where Rd is the address, or the address is what is stored; nothing is left of what is loaded into the register 0.
func TestDataSame(t *testing.T) {
	ws, c := base(t, api.Rv{Op: api.RLd, Rd: 5, Rs1: 5, Imm: 8})
	c.Regs[5] = 16
	wantStep(t, ws, c, at(with(c, map[int]int{5: 2003}), 3))
	ws, c = base(t, api.Rv{Op: api.RLd, Rs1: 5})
	c.Regs[5] = 504
	wantStep(t, ws, c, at(c, 3))
	ws, c = base(t, api.Rv{Op: api.RSd, Rs1: 5, Rs2: 5, Imm: -8})
	c.Regs[5] = 512
	want := at(c, 3)
	want.Data[63] = 512
	wantStep(t, ws, c, want)
}

// TestDataRefused (P12.2): addresses below the data, behind it, and within a word; for the register 0, too.
func TestDataRefused(t *testing.T) {
	for _, address := range []int{math.MinInt, math.MinInt + 8, -1 << 32, -512, -16, -8, -7, -1, 1, 2, 4, 7, 9, 12, 503, 505, 508, 511, 512, 513, 520, 1024, 1 << 32, 1<<32 + 8, 1 << 61, 1 << 62, math.MaxInt - 7, math.MaxInt} {
		for _, imm := range []int{-2048, -8, 0, 8, 2047} {
			for _, x := range []api.Rv{{Op: api.RLd, Rd: 7, Rs1: 5, Imm: imm}, {Op: api.RLd, Rs1: 5, Imm: imm}, {Op: api.RSd, Rs1: 5, Rs2: 7, Imm: imm}} {
				ws, c := base(t, x)
				c.Regs[5] = address - imm
				wantRefused(t, ws, c, api.ErrRange)
			}
		}
	}
}

// TestBranches (P12.2): where each op goes with each kind of two numbers, also to where there is no word.
func TestBranches(t *testing.T) {
	for _, n := range []struct{ a, b int }{{1, 1}, {1, 2}, {2, 1}, {-1, 1}, {1, -1}, {math.MinInt, math.MaxInt}, {math.MaxInt, math.MinInt}, {1, 1 + 1<<32}, {0, 0}, {-1, -1}} {
		for op, taken := range map[int]bool{api.RBeq: n.a == n.b, api.RBne: n.a != n.b, api.RBlt: n.a < n.b, api.RBge: !(n.a < n.b)} {
			for _, places := range []int{-1024, -3, -2, -1, 0, 1, 2, 1023} {
				ws, c := base(t, api.Rv{Op: op, Rs1: 5, Rs2: 6, Imm: 4 * places})
				c.Regs[5], c.Regs[6] = n.a, n.b
				to := 3
				if taken {
					to = 2 + places
				}
				wantStep(t, ws, c, at(c, to))
			}
		}
	}
}

// TestJal (P12.2): Rd is the address behind it, and it goes on as far as Imm says, also to where there is no word.
func TestJal(t *testing.T) {
	for _, places := range []int{-262144, -3, -2, -1, 0, 1, 2, 262143} {
		for _, rd := range []int{0, 1, 31} {
			ws, c := base(t, api.Rv{Op: api.RJal, Rd: rd, Imm: 4 * places})
			wantStep(t, ws, c, at(with(c, map[int]int{rd: 12}), 2+places))
		}
	}
}

// TestJalr (P12.2): it goes on to an address without its lowest bit, also to where there is no word, and Rd is the address behind it.
func TestJalr(t *testing.T) {
	for _, s := range []struct{ a, imm, want int }{
		{0, 0, 0},
		{0, 1, 0},
		{4, 0, 1},
		{5, 0, 1},
		{3, 1, 1},
		{3, 2, 1},
		{8, -4, 1},
		{2, 2, 1},
		{131068, 4, 32768},
		{0, -4, -1},
		{0, -3, -1},
		{0, -8, -2},
		{-7, 0, -2},
		{-4, 4, 0},
		{math.MaxInt, -3, 1<<61 - 1},
		{math.MaxInt - 3, 0, 1<<61 - 1},
		{math.MaxInt - 2, 0, 1<<61 - 1},
		{math.MaxInt, 1, -1 << 61},
		{math.MaxInt, 2, -1 << 61},
		{math.MinInt, 0, -1 << 61},
		{math.MinInt, -4, 1<<61 - 1},
	} {
		for _, rd := range []int{0, 1, 5, 31} {
			ws, c := base(t, api.Rv{Op: api.RJalr, Rd: rd, Rs1: 5, Imm: s.imm})
			c.Regs[5] = s.a
			wantStep(t, ws, c, at(with(c, map[int]int{rd: 12}), s.want))
		}
	}
}

// TestJalrRefused (P12.2): addresses that 4 does not divide without their lowest bit.
func TestJalrRefused(t *testing.T) {
	for _, address := range []int{2, 3, 6, 7, 10, 131074, -1, -2, -5, -6, math.MaxInt, math.MaxInt - 1, math.MinInt + 2, math.MinInt + 3} {
		for _, imm := range []int{-2048, -1, 0, 1, 2, 2047} {
			for _, rd := range []int{0, 1, 5} {
				ws, c := base(t, api.Rv{Op: api.RJalr, Rd: rd, Rs1: 5, Imm: imm})
				c.Regs[5] = address - imm
				wantRefused(t, ws, c, api.ErrForm)
			}
		}
	}
}

// TestEcall (P12.2): it stops at its place.
func TestEcall(t *testing.T) {
	ws, c := base(t, api.Rv{Op: api.REcall})
	want := c
	want.Halted = true
	wantStep(t, ws, c, want)
}

// TestPlaces (P12.2): a place where there is no word, ahead of the words and behind them.
func TestPlaces(t *testing.T) {
	ws := words(t, api.Rv{Op: api.REcall}, api.Rv{Op: api.REcall})
	for _, pc := range []int{math.MinInt, -1 << 32, -2, -1, 2, 3, 8, 32768, 1 << 32, 1<<32 + 1, 1 << 62, math.MaxInt} {
		wantRefused(t, ws, at(filled(), pc), api.ErrState)
		wantRefused(t, nil, at(filled(), pc), api.ErrState)
		wantRefused(t, []int{}, at(filled(), pc), api.ErrState)
	}
	wantRefused(t, nil, api.Cpu{}, api.ErrState)
	// Words behind the last one, in spare room, are none.
	wantRefused(t, ws[:1], at(filled(), 1), api.ErrState)
}

// TestWords (P12.2): words that are no instruction, and numbers that are no words; ones that the machine does not come to do not count.
func TestWords(t *testing.T) {
	for _, w := range []int{0, 1, 0x7f, 0xffffffff, 0x80000000, 0x00208563, 0x002000ef, 0x100073, -1, -115, math.MinInt, math.MinInt + 115, 1 << 32, 1<<32 + 115, 1<<32 + 0x13, math.MaxInt} {
		wantRefused(t, []int{w}, filled(), api.ErrKind)
		wantRefused(t, []int{115, w, 115}, at(filled(), 1), api.ErrKind)
		want := filled()
		want.Halted = true
		wantStep(t, []int{115, w}, filled(), want)
	}
}

// TestStopped (P12.3): a machine that has stopped stays as it is, but for the register 0, wherever it is.
func TestStopped(t *testing.T) {
	for _, ws := range [][]int{nil, {}, {115}, {0}, {-1}, words(t, api.Rv{Op: api.RAddi, Rd: 5, Imm: 1})} {
		for _, pc := range []int{math.MinInt, -1, 0, 1, 7, math.MaxInt} {
			c := at(filled(), pc)
			c.Halted = true
			wantStay(t, ws, c)
			c.Regs[0] = math.MinInt
			wantStay(t, ws, c)
			c.Regs[0] = 0
			wantStay(t, ws, c)
		}
	}
}
