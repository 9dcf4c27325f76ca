package emit_test

import (
	"fmt"
	"math"
	"strings"
	"testing"

	"tierline/api"
	"tierline/emit"
	"tierline/told"
)

// wantTo: from a run's beginning machine code goes to a place where a register is that number, and from each state of the run as far as is told.
func wantTo(t *testing.T, text string, args []int, pc, reg, want int) {
	t.Helper()
	p := told.Text(t, text)
	left, _, _ := wantFar(t, p, words(t, p), told.Begin(t, p, args, nil, 50))
	if top(left).Pc != pc || top(left).Regs[reg] != want {
		t.Errorf("%q %v: to %v, want place %d, r%d %d", text, args, left, pc, reg, want)
	}
	wantAll(t, p, args, nil, 50)
}

// TestOps (P13.5): each op makes what byte code makes, at numbers at the bounds: of two that are only known in the run, and of one that is known beforehand.
func TestOps(t *testing.T) {
	for _, op := range []string{"add", "sub", "mul", "div", "and", "or", "xor", "shl", "sar", "lt", "eq"} {
		p := told.Text(t, "func 2 3\n"+op+" r2 r0 r1\nret r2\n")
		ws := words(t, p)
		for _, a := range edges {
			for _, b := range edges {
				wantFar(t, p, ws, told.Begin(t, p, []int{a, b}, nil, 9))
			}
			for _, text := range []string{"set r1 %d\n" + op + " r1 r1 r0\n", "set r1 %d\n" + op + " r1 r0 r1\n"} {
				q := told.Text(t, fmt.Sprintf("func 1 2\n"+text+"ret r1\n", a))
				qs := words(t, q)
				for _, b := range []int{math.MinInt, -1, 0, 3, 64, a} {
					wantFar(t, q, qs, told.Begin(t, q, []int{b}, nil, 9))
				}
			}
		}
	}
}

// TestResults (P13.5): some of what ops make, as numbers.
func TestResults(t *testing.T) {
	for _, c := range []struct {
		op         string
		a, b, want int
	}{
		{"add", math.MaxInt, 1, math.MinInt},
		{"sub", 3, 5, -2},
		{"mul", 1 << 40, 1 << 30, 0},
		{"div", -7, 2, -3},
		{"div", math.MinInt, -1, math.MinInt},
		{"and", 12, 10, 8},
		{"or", 12, 10, 14},
		{"xor", 12, 10, 6},
		{"shl", 1, 65, 2},
		{"sar", -8, 1, -4},
		{"sar", math.MinInt, 63, -1},
		{"lt", -1, 0, 1},
		{"lt", 0, -1, 0},
		{"eq", 5, 5, 1},
		{"eq", math.MinInt, 0, 0},
	} {
		wantTo(t, "func 2 3\n"+c.op+" r2 r0 r1\nret r2\n", []int{c.a, c.b}, 1, 2, c.want)
	}
}

// TestNumbers (P13.5): numbers that are known beforehand, at the bounds of each of their bits.
func TestNumbers(t *testing.T) {
	l := append([]int{0x123456789abcdef0, -0x123456789abcdef0, 0x7ffffffffffff800, 0x7ffff800, 0x7ffff7ff}, edges...)
	for bit := range 64 {
		for _, n := range []int{1 << bit, -1 << bit} {
			l = append(l, n-2049, n-2048, n-1, n, n+1, n+2047, n+2048, n<<1|n>>20)
		}
	}
	for _, n := range l {
		wantTo(t, fmt.Sprintf("func 0 1\nset r0 %d\nret r0\n", n), nil, 1, 0, n)
	}
}

// TestMemory (P13.5): each word of the memory is stored and loaded, and none outside.
func TestMemory(t *testing.T) {
	p := told.Text(t, "func 2 3\nstore r0 r1\nload r2 r0\nstore r1 r2\nret r2\n")
	ws := words(t, p)
	for a := -3; a < 20; a++ {
		for b := -3; b < 20; b++ {
			s := told.Begin(t, p, []int{a, b}, nil, 9)
			for i := range s.Memory {
				s.Memory[i] = 1000 + i
			}
			wantFar(t, p, ws, s)
		}
	}
	for _, a := range append([]int{1 << 60, 1<<61 + 3, -1 << 61, -1<<61 + 1}, edges...) {
		wantFar(t, p, ws, told.Begin(t, p, []int{a, 3}, nil, 9))
		// And words that are known beforehand.
		q := told.Text(t, fmt.Sprintf("func 1 2\nset r1 %d\nadd r0 r0 r0\nstore r1 r0\nload r0 r1\nret r0\n", a))
		wantAll(t, q, []int{21}, nil, 9)
	}
}

// TestFuel (P13.5): whatever the fuel is, machine code leaves where it is told to.
func TestFuel(t *testing.T) {
	for _, text := range []string{told.Counted, told.Diamond, told.Nested, told.Crossed, told.Still} {
		p := told.Text(t, text)
		for fuel := range 60 {
			for _, a := range []int{0, 1, 5} {
				wantAll(t, p, []int{a, 3}[:p.Funcs[0].Params], nil, fuel)
			}
		}
	}
}

// TestLoop (P13.5): all fuel that may be is used in one go, within the steps that the machine may have: by a block of one instruction, and by blocks with all registers.
func TestLoop(t *testing.T) {
	all := told.Woven(func(i, ifs int) int { return 0 })
	for _, text := range []string{"func 1 1\njump 0\n", "func 1 1\nif r0 0\njump 0\n", all} {
		p := told.Text(t, text)
		s := told.Begin(t, p, []int{1, 1}[:p.Funcs[0].Params], nil, api.MaxFuel)
		if _, n, why := wantFar(t, p, words(t, p), s); n < api.MaxFuel-40 || why != "fuel" {
			t.Errorf("%q: %d steps, %s", text, n, why)
		}
	}
}

// TestPhis (P13.5): what comes to phis lies where other phis of the block are kept, or is known on one way and not on another.
func TestPhis(t *testing.T) {
	for _, text := range []string{
		"func 2 2\nadd r0 r0 r1\nsub r1 r1 r0\nif r0 0\nret r1\n",
		"func 2 3\nset r2 7\nsub r1 r0 r1\nsub r0 r1 r0\nadd r2 r2 r1\nif r2 1\nstore r0 r1\nret r2\n",
		"func 1 3\nset r1 0\nset r2 1\nif r1 6\nadd r2 r0 r2\nset r1 1\njump 2\nsub r0 r0 r2\nset r2 5\nif r0 2\nret r2\n",
		"func 2 4\nset r2 -1\nset r3 4611686018427387904\nif r0 6\nadd r3 r3 r1\nset r2 3\njump 7\nsub r3 r1 r3\nif r1 10\nmul r2 r2 r3\nret r2\nadd r1 r1 r2\nadd r2 r2 r3\njump 2\n",
	} {
		p := told.Text(t, text)
		for _, a := range []int{0, 1, 2, 5, -3, math.MinInt} {
			for _, b := range []int{0, 1, 3, -2, math.MaxInt} {
				wantAll(t, p, []int{a, b}[:p.Funcs[0].Params], nil, 80)
			}
		}
	}
}

// TestNeverCome (P13.5): blocks that are never come to, Ifs that are known, and what stands behind a Div by 0 that is known.
func TestNeverCome(t *testing.T) {
	for _, text := range []string{
		"func 1 2\nset r1 0\nif r1 4\nif r0 1\nret r1\nset r1 1\njump 1\n",
		"func 1 2\nset r1 9\nif r1 4\nadd r0 r0 r1\nret r0\nsub r0 r0 r1\nret r0\n",
		"func 1 2\nset r1 0\ndiv r0 r0 r1\nif r0 0\nadd r0 r0 r0\nret r0\n",
		"func 1 2\nset r1 0\ndiv r0 r0 r1\njump 3\nif r0 0\nadd r0 r0 r0\nret r0\n",
		"func 1 2\nset r1 0\ndiv r0 r0 r1\njump 3\nstore r0 r0\nload r1 r0\neq r0 r0 r1\nif r1 3\nret r0\n",
		"func 1 2\nset r1 99\nload r0 r1\nif r0 1\nret r0\n",
	} {
		p := told.Text(t, text)
		for _, a := range []int{0, 1, -9} {
			wantAll(t, p, []int{a}, nil, 20)
		}
	}
}

// many: a function at all limits: numbers of many bits in all registers but the parameters, lines that are asked for, and then all registers are read.
func many(params int, line func(i int) string) string {
	var s strings.Builder
	fmt.Fprintf(&s, "func %d 12\n", params)
	for r := params; r < api.MaxRegs; r++ {
		fmt.Fprintf(&s, "set r%d %d\n", r, 0x123456789abcdef1+r)
	}
	for i := range api.MaxCode - 7 - (api.MaxRegs - params) {
		s.WriteString(line(i))
	}
	for r := 0; r < api.MaxRegs; r += 2 {
		fmt.Fprintf(&s, "store r%d r%d\n", r, r+1)
	}
	return s.String() + "ret r0\n"
}

// TestManyWords (P13.5): functions at all limits, whose words are as many as can be, are no more than a machine takes.
func TestManyWords(t *testing.T) {
	for _, text := range []string{
		many(1, func(i int) string { return fmt.Sprintf("load r0 r%d\n", i%2) }),
		many(2, func(i int) string { return fmt.Sprintf("div r1 r1 r%d\n", i%2) }),
		many(2, func(i int) string { return fmt.Sprintf("if r%d %d\n", i%2, 10+i) }),
		many(2, func(i int) string {
			return []string{fmt.Sprintf("host r%d r0\n", 2+i/2%10), fmt.Sprintf("if r0 %d\n", 10+i%3)}[i%2]
		}),
	} {
		p := told.Text(t, text)
		if n := len(p.Funcs[0].Code); n != api.MaxCode {
			t.Errorf("%q has %d instructions", text, n)
		}
		for _, a := range []int{0, 1} {
			wantAll(t, p, []int{a, 1}[:p.Funcs[0].Params], []int{1, 2, 3, 4, 5, 6, 7}, 60)
		}
	}
}

// TestFunctionRefuses (P13.5): functions that are none, behind what proof's Check refuses.
func TestFunctionRefuses(t *testing.T) {
	told.Refused(t, func(p api.Program, fn int, want api.Errno) {
		if ws, e := emit.Function(p, fn); e != want || len(ws) != 0 {
			t.Errorf("Function(%v, %d): %v %v, want %v", p, fn, ws, e, want)
		}
	})
}
