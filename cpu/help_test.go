package cpu_test

import (
	"math"
	"math/big"
	"testing"

	"tierline/api"
	"tierline/cpu"
	"tierline/drawn"
	"tierline/rv"
)

// edges: numbers at the bounds, and others.
var edges = []int{math.MinInt, math.MinInt + 1, -1 << 32, -2048, -65, -64, -63, -8, -7, -4, -2, -1, 0, 1, 2, 4, 6, 7, 8, 63, 64, 65, 504, 505, 512, 2047, 1 << 31, 1 << 32, math.MaxInt - 3, math.MaxInt - 1, math.MaxInt}

// word of an instruction that may be.
func word(t *testing.T, x api.Rv) int {
	t.Helper()
	w, e := rv.Encode(x)
	if e != api.OK {
		t.Fatalf("Encode(%v): %v, want OK", x, e)
	}
	return w
}

// words of instructions that may be.
func words(t *testing.T, l ...api.Rv) []int {
	t.Helper()
	var ws []int
	for _, x := range l {
		ws = append(ws, word(t, x))
	}
	return ws
}

// filled: a machine whose registers, the register 0 too, and data all are different.
func filled() api.Cpu {
	var c api.Cpu
	for i := range c.Regs {
		c.Regs[i] = 1000 + i
	}
	for i := range c.Data {
		c.Data[i] = 2000 + i
	}
	return c
}

// with: a machine with some registers.
func with(c api.Cpu, regs map[int]int) api.Cpu {
	for reg, v := range regs {
		c.Regs[reg] = v
	}
	return c
}

// at: a machine at another place.
func at(c api.Cpu, pc int) api.Cpu {
	c.Pc = pc
	return c
}

// wantStep: a machine that has not stopped comes by a step to another one, whose register 0 is 0, whatever is told; a run of one step says the same.
func wantStep(t *testing.T, words []int, c, want api.Cpu) {
	t.Helper()
	want.Regs[0] = 0
	if got, e := cpu.Step(words, c); e != api.OK || got != want {
		t.Errorf("Step(%x, %v):\n%v %v, want\n%v", words, c, got, e, want)
	}
	ran, steps, e := cpu.Run(words, c, 1)
	switch {
	case want.Halted && (e != api.OK || steps != 1 || ran != want):
		t.Errorf("Run(%x, %v, 1):\n%v %d %v, want\n%v", words, c, ran, steps, e, want)
	case !want.Halted && (e != api.ErrSteps || steps != 0 || ran != api.Cpu{}):
		t.Errorf("Run(%x, %v, 1): %v %d %v, want ErrSteps", words, c, ran, steps, e)
	}
}

// wantRefused: a machine's step is refused so, and so is each run that comes to it.
func wantRefused(t *testing.T, words []int, c api.Cpu, want api.Errno) {
	t.Helper()
	if got, e := cpu.Step(words, c); e != want || got != (api.Cpu{}) {
		t.Errorf("Step(%.40x, %v): %v %v, want %v", words, c, got, e, want)
	}
	for _, most := range []int{1, 2, api.MaxSteps} {
		wantRunRefused(t, words, c, most, want)
	}
}

// wantRun: a run stops behind so many steps, and not with fewer.
func wantRun(t *testing.T, words []int, c api.Cpu, steps int, want api.Cpu) {
	t.Helper()
	want.Regs[0] = 0
	for _, most := range []int{steps, steps + 1, api.MaxSteps} {
		if most > api.MaxSteps {
			continue
		}
		if got, n, e := cpu.Run(words, c, most); e != api.OK || n != steps || got != want {
			t.Errorf("Run(%.40x, %v, %d):\n%v %d %v, want\n%v %d", words, c, most, got, n, e, want, steps)
		}
	}
	if steps > 0 {
		wantRunRefused(t, words, c, steps-1, api.ErrSteps)
		wantRunRefused(t, words, c, 0, api.ErrSteps)
	}
}

// wantRunRefused: a run is refused so.
func wantRunRefused(t *testing.T, words []int, c api.Cpu, most int, want api.Errno) {
	t.Helper()
	if got, n, e := cpu.Run(words, c, most); e != want || n != 0 || got != (api.Cpu{}) {
		t.Errorf("Run(%.40x, %v, %d): %v %d %v, want %v", words, c, most, got, n, e, want)
	}
}

// cut: the lowest 64 bits of a number, in two's complement.
func cut(x *big.Int) int {
	low := new(big.Int).And(x, new(big.Int).SetUint64(math.MaxUint64))
	return int(low.Uint64())
}

// unsigned: 64 bits, taken without a sign.
func unsigned(n int) *big.Int { return new(big.Int).SetUint64(uint64(n)) }

// byImm: the ops that make Rd of Rs1 and Imm, by those that do the same with Rs2.
var byImm = map[int]int{
	api.RAddi: api.RAdd, api.RAndi: api.RAnd, api.ROri: api.ROr, api.RXori: api.RXor, api.RSlti: api.RSlt,
	api.RSltiu: api.RSltu, api.RSlli: api.RSll, api.RSrai: api.RSra,
}

// toldMake: what an op from RAdd to RSltu makes, by the words of P12.2 and P4.4, in numbers without bounds.
func toldMake(op, a, b int) int {
	x, y, z := big.NewInt(int64(a)), big.NewInt(int64(b)), new(big.Int)
	six := uint(new(big.Int).And(y, big.NewInt(63)).Uint64())
	number := map[bool]int{true: 1}
	switch op {
	case api.RAdd:
		return cut(z.Add(x, y))
	case api.RSub:
		return cut(z.Sub(x, y))
	case api.RMul:
		return cut(z.Mul(x, y))
	case api.RDiv:
		if b == 0 {
			return -1
		}
		return cut(z.Quo(x, y))
	case api.RAnd:
		return cut(z.And(x, y))
	case api.ROr:
		return cut(z.Or(x, y))
	case api.RXor:
		return cut(z.Xor(x, y))
	case api.RSll:
		return cut(z.Lsh(x, six))
	case api.RSra:
		return cut(z.Rsh(x, six))
	case api.RSlt:
		return number[x.Cmp(y) < 0]
	}
	return number[unsigned(a).Cmp(unsigned(b)) < 0]
}

// toldStep: a step by the words of P12.1 to P12.3; code is gone through by addresses.
func toldStep(words []int, c api.Cpu) (api.Cpu, api.Errno) {
	if len(words) > 32768 {
		return api.Cpu{}, api.ErrSize
	}
	c.Regs[0] = 0
	if c.Halted {
		return c, api.OK
	}
	if c.Pc < 0 || c.Pc > len(words)-1 {
		return api.Cpu{}, api.ErrState
	}
	x, e := rv.Decode(words[c.Pc])
	if e != api.OK {
		return api.Cpu{}, api.ErrKind
	}
	next, e := toldDo(x, &c)
	if e != api.OK {
		return api.Cpu{}, e
	}
	c.Pc = next / 4
	c.Regs[0] = 0
	return c, api.OK
}

// toldDo: does an instruction, and answers the address to which the machine goes on.
func toldDo(x api.Rv, c *api.Cpu) (int, api.Errno) {
	here := 4 * c.Pc
	behind := here + 4
	a, b := c.Regs[x.Rs1], c.Regs[x.Rs2]
	address := cut(new(big.Int).Add(big.NewInt(int64(a)), big.NewInt(int64(x.Imm))))
	taken := false
	switch x.Op {
	case api.RLd, api.RSd:
		for n := range c.Data {
			if address == 8*n && x.Op == api.RLd {
				c.Regs[x.Rd] = c.Data[n]
				return behind, api.OK
			}
			if address == 8*n {
				c.Data[n] = b
				return behind, api.OK
			}
		}
		return 0, api.ErrRange
	case api.RBeq:
		taken = a == b
	case api.RBne:
		taken = a != b
	case api.RBlt:
		taken = a < b
	case api.RBge:
		taken = a > b || a == b
	case api.RJal:
		c.Regs[x.Rd] = behind
		taken = true
	case api.RJalr:
		if address&1 == 1 {
			address--
		}
		if address&2 != 0 {
			return 0, api.ErrForm
		}
		c.Regs[x.Rd] = behind
		return address, api.OK
	case api.RLui:
		c.Regs[x.Rd] = 4096 * x.Imm
	case api.REcall:
		c.Halted = true
		return here, api.OK
	default:
		if op, ok := byImm[x.Op]; ok {
			c.Regs[x.Rd] = toldMake(op, a, x.Imm)
		} else {
			c.Regs[x.Rd] = toldMake(x.Op, a, b)
		}
	}
	if taken {
		return here + x.Imm, api.OK
	}
	return behind, api.OK
}

// toldRun: a run by the words of P12.4, step by step as they are told.
func toldRun(words []int, c api.Cpu, most int) (api.Cpu, int, api.Errno) {
	if len(words) > 32768 {
		return api.Cpu{}, 0, api.ErrSize
	}
	if most < 0 || most > 4000000 {
		return api.Cpu{}, 0, api.ErrRange
	}
	c.Regs[0] = 0
	for n := range most + 1 {
		if c.Halted {
			return c, n, api.OK
		}
		if n == most {
			break
		}
		var e api.Errno
		if c, e = toldStep(words, c); e != api.OK {
			return api.Cpu{}, 0, e
		}
	}
	return api.Cpu{}, 0, api.ErrSteps
}

// few: one of few registers, so that they meet.
func few(d *drawn.Die) int { return d.Below(7) }

// instr: a drawn instruction that may be.
func instr(d *drawn.Die, op int) api.Rv {
	x := api.Rv{Op: op, Rd: few(d), Rs1: few(d)}
	near := 4 * (d.Below(20) - 6)
	switch {
	case op <= api.RSltu:
		x.Rs2 = few(d)
	case op == api.RSlli || op == api.RSrai:
		x.Imm = d.Below(64)
	case op <= api.RSltiu:
		x.Imm = d.Below(4096) - 2048
	case op == api.RLd:
		x.Imm = near
	case op >= api.RSd && op <= api.RBge:
		x.Rd, x.Rs2, x.Imm = 0, few(d), near
	case op == api.RJalr:
		x.Imm = near + d.Below(8)/5
	case op == api.RJal:
		x.Rs1, x.Imm = 0, near
	case op == api.RLui:
		x.Rs1, x.Imm = 0, d.Below(1<<20)-1<<19
	default:
		x.Rd, x.Rs1 = 0, 0
	}
	return x
}

// code: drawn words, of which a few are none.
func code(t *testing.T, d *drawn.Die, n int) []int {
	t.Helper()
	ws := make([]int, n)
	for i := range ws {
		op := 1 + d.Below(api.REcall)
		if d.Below(3) == 0 {
			op = api.RAddi
		}
		if ws[i] = word(t, instr(d, op)); d.Below(60) == 0 {
			ws[i] = int(d.Bits()) >> (30 + d.Below(4))
		}
	}
	return ws
}

// machine: a drawn one, most of whose registers are addresses of data or code.
func machine(d *drawn.Die, places int) api.Cpu {
	c := api.Cpu{Pc: d.Below(places+2) - 1, Halted: d.Below(30) == 0}
	if d.Below(3) > 0 {
		c.Pc = 0
	}
	for i := range c.Regs {
		c.Regs[i] = 8 * d.Below(api.Data)
		switch d.Below(6) {
		case 0:
			c.Regs[i] = edges[d.Below(len(edges))]
		case 1:
			c.Regs[i] = int(d.Bits()) >> d.Below(64)
		case 2:
			c.Regs[i] = 4 * d.Below(places)
		}
	}
	for i := range c.Data {
		c.Data[i] = int(d.Bits()) >> d.Below(64)
	}
	return c
}
