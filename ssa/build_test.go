package ssa_test

import (
	"fmt"
	"strings"
	"testing"

	"tierline/api"
	"tierline/drawn"
	"tierline/ssa"
	"tierline/told"
)

// TestBuild (P8.1, P8.2): functions with values, told in short.
func TestBuild(t *testing.T) {
	for _, c := range []struct{ text, want string }{
		{counted, "7 | ; 0:1(- -) 1:2(- -); r0=0 | r0=3(0 6) r1=4(1 5); 2:-(3 -); r0=3 r1=4 r2=2 | ; 3:-(4 -); r1=4 | ; 4:5(4 3) 5:6(3 2) 6:-(- -); r0=3 r1=4 r2=2"},
		{diamond, "4 | ; 0:-(0 -); r0=0 | ; 1:1(- -) 2:-(- -);  | ; 3:2(- -);  | r1=3(1 2); 4:-(3 -); r1=3"},
		{still, "3 | ; 0:2(0 1) 1:-(2 1) 2:-(2 -); r0=0 r1=1"},
		{"func 1 1\nret r0\n", "1 | ; 0:-(0 -); r0=0"},
		{"func 2 2\nret r1\n", "2 | ; 0:-(1 -); r1=1"},
		// Parameters are values, whether they are read or not, and so is what nobody reads.
		{"func 2 3\nset r2 1\nset r2 2\nset r0 3\nret r2\n", "5 | ; 0:2(- -) 1:3(- -) 2:4(- -) 3:-(3 -); "},
		{"func 2 2\njump 0\n", "2 | ; 0:-(- -); "},
		{"func 0 1\njump 0\n", "0 | ; 0:-(- -); "},
		// What is not reached makes no values.
		{"func 1 2\njump 3\nset r1 5\njump 3\nset r1 6\nret r1\n", "2 | ; 0:-(- -);  | ; 3:1(- -) 4:-(1 -); "},
		// It reads what the register was ahead of it, though it sets it.
		{"func 1 1\nadd r0 r0 r0\nmul r0 r0 r0\nret r0\n", "3 | ; 0:1(0 0) 1:2(1 1) 2:-(2 -); r0=0"},
		// Values are made by the block that a Call or a Host ends, and are live behind it.
		{"func 1 2\nhost r1 r0\ncall r0 0 r1 r1\nadd r0 r0 r1\nret r0\n", "4 | ; 0:1(0 -); r0=0 | ; 1:2(1 -); r1=1 | ; 2:3(2 1) 3:-(3 -); r0=2 r1=1"},
		// The one block that leads to another may stand further on in the list, so that a later value is read.
		{"func 1 2\njump 3\nadd r0 r0 r1\nret r0\nset r1 5\njump 1\n", "3 | ; 0:-(- -); r0=0 | ; 1:1(0 2) 2:-(1 -); r0=0 r1=2 | ; 3:2(- -) 4:-(- -); r0=0"},
		{"func 1 2\njump 4\nadd r0 r0 r1\nret r0\njump 1\nset r1 5\njump 3\n", "3 | ; 0:-(- -); r0=0 | ; 1:1(0 2) 2:-(1 -); r0=0 r1=2 | ; 3:-(- -); r0=0 r1=2 | ; 4:2(- -) 5:-(- -); r0=0"},
	} {
		wantShort(t, c.text, 0, c.want)
	}
	text := strings.Repeat(still, api.MaxFuncs-1) + diamond
	wantShort(t, text, api.MaxFuncs-1, "4 | ; 0:-(0 -); r0=0 | ; 1:1(- -) 2:-(- -);  | ; 3:2(- -);  | r1=3(1 2); 4:-(3 -); r1=3")
	wantShort(t, text, api.MaxFuncs-2, "3 | ; 0:2(0 1) 1:-(2 1) 2:-(2 -); r0=0 r1=1")
}

// TestPhis (P8.1, P8.2): where phis stand, and that Args come in the order of Prev.
func TestPhis(t *testing.T) {
	for _, c := range []struct{ text, want string }{
		// Where the first block is led to, the parameter comes from the function's beginning.
		{"func 1 1\nhost r0 r0\nif r0 0\nret r0\n", "3 | r0=1(0 2); 0:2(1 -); r0=1 | ; 1:-(2 -); r0=2 | ; 2:-(2 -); r0=2"},
		{"func 2 2\nadd r0 r0 r1\nif r0 0\nret r1\n", "4 | r0=2(0 3); 0:3(2 1) 1:-(3 -); r0=2 r1=1 | ; 2:-(1 -); r1=1"},
		// Two registers in one block, by their numbers, whichever is set first.
		{"func 2 2\nif r0 4\nset r1 1\nset r0 2\njump 4\nadd r0 r0 r1\nret r0\n", "7 | ; 0:-(0 -); r0=0 r1=1 | ; 1:2(- -) 2:3(- -) 3:-(- -);  | r0=4(0 3) r1=5(1 2); 4:6(4 5) 5:-(6 -); r0=4 r1=5"},
		// None for a register that is not live there, though others come by each way; none where one block alone leads, be it by both ways of an If.
		{"func 1 2\nif r0 3\nset r1 1\njump 4\nset r1 2\nret r0\n", "3 | ; 0:-(0 -); r0=0 | ; 1:1(- -) 2:-(- -); r0=0 | ; 3:2(- -); r0=0 | ; 4:-(0 -); r0=0"},
		{"func 1 2\nif r0 3\nset r1 1\njump 4\nset r1 2\nset r1 3\nret r1\n", "4 | ; 0:-(0 -); r0=0 | ; 1:1(- -) 2:-(- -);  | ; 3:2(- -);  | ; 4:3(- -) 5:-(3 -); "},
		{"func 1 1\nset r0 4\nif r0 2\nret r0\n", "2 | ; 0:1(- -) 1:-(1 -);  | ; 2:-(1 -); r0=1"},
		// Three lead to one block: first the beginning, then by their places, though the last one is come to first.
		{"func 1 1\nif r0 4\nset r0 1\njump 0\nret r0\nhost r0 r0\nif r0 1\nset r0 2\njump 0\n", "5 | r0=1(0 2 4); 0:-(1 -); r0=1 | ; 1:2(- -) 2:-(- -);  | ; 4:3(1 -); r0=1 | ; 5:-(3 -); r0=3 | ; 6:4(- -) 7:-(- -); "},
		// What comes may be a phi of another block.
		{"func 2 2\nif r0 2\nset r1 1\nif r0 4\nset r1 2\nret r1\n", "6 | ; 0:-(0 -); r0=0 r1=1 | ; 1:2(- -); r0=0 | r1=3(1 2); 2:-(0 -); r0=0 r1=3 | ; 3:4(- -);  | r1=5(3 4); 4:-(5 -); r1=5"},
	} {
		wantShort(t, c.text, 0, c.want)
	}
}

// TestPhisGo (P8.2): phis to which, but for themselves, only one value comes go, and others then.
func TestPhisGo(t *testing.T) {
	for _, c := range []struct{ text, want string }{
		// By both ways comes the same.
		{"func 2 2\nif r0 2\nstore r0 r1\nret r1\n", "2 | ; 0:-(0 -); r0=0 r1=1 | ; 1:-(0 1); r0=0 r1=1 | ; 2:-(1 -); r1=1"},
		// One value, and itself.
		{"func 1 1\nif r0 0\nret r0\n", "1 | ; 0:-(0 -); r0=0 | ; 1:-(0 -); r0=0"},
		{"func 1 1\nset r0 1\nif r0 1\nret r0\n", "2 | ; 0:1(- -);  | ; 1:-(1 -); r0=1 | ; 2:-(1 -); r0=1"},
		// That the inner one goes lets the outer one go.
		{nested, "4 | ; 0:2(- -);  | ; 1:3(- -); r1=2 | ; 2:-(2 -); r0=3 r1=2 | ; 3:-(3 -); r0=3 r1=2 | ; 4:-(3 -); r0=3"},
		// Two that come to one another, and a third value to both: neither of them goes.
		{crossed, "3 | ; 0:-(0 -); r0=0 | r0=1(0 2); 1:-(1 -); r0=1 | r0=2(0 1); 2:-(2 -); r0=2 | ; 3:-(2 -); r0=2"},
		// The register is set to the same number on both ways: these are two values.
		{"func 1 2\nif r0 3\nset r1 1\njump 4\nset r1 1\nret r1\n", "4 | ; 0:-(0 -); r0=0 | ; 1:1(- -) 2:-(- -);  | ; 3:2(- -);  | r1=3(1 2); 4:-(3 -); r1=3"},
		// A loop that changes one register takes along another one, and one for nothing.
		{"func 2 3\nset r2 1\nsub r0 r0 r2\nif r0 1\nadd r0 r1 r2\nret r0\n", "6 | ; 0:2(- -); r0=0 r1=1 | r0=3(0 4); 1:4(3 2) 2:-(4 -); r0=3 r1=1 r2=2 | ; 3:5(1 2) 4:-(5 -); r1=1 r2=2"},
		// Where a phi went, what stood for it stands in the Args of those that are left.
		{"func 2 2\nif r0 1\nif r0 3\njump 3\nif r0 5\nset r1 7\nret r1\n", "4 | ; 0:-(0 -); r0=0 r1=1 | ; 1:-(0 -); r0=0 r1=1 | ; 2:-(- -); r0=0 r1=1 | ; 3:-(0 -); r0=0 r1=1 | ; 4:2(- -);  | r1=3(1 2); 5:-(3 -); r1=3"},
	} {
		wantShort(t, c.text, 0, c.want)
	}
}

// TestNoneLeft (P8.2): of the phis that are left none may go.
func TestNoneLeft(t *testing.T) {
	d := drawn.Die(81)
	left := 0
	for i := range 600 {
		p := drawn.Any(&d, i)
		for fn := range p.Funcs {
			s, _ := ssa.Build(p, fn)
			for _, part := range s.Parts {
				for _, phi := range part.Phis {
					left++
					come := map[int]int{}
					for _, arg := range phi.Args {
						come[arg]++
					}
					delete(come, phi.Id)
					if len(come) < 2 {
						t.Errorf("Build(%v, %d): %v: the phi %v should go", p, fn, short(s), phi)
					}
				}
			}
		}
	}
	if left < 1000 {
		t.Errorf("only %d phis are left", left)
	}
}

// TestIns (P8.2): what an instruction has of each op: its op, its number, what it makes and what it reads, at registers that all differ.
func TestIns(t *testing.T) {
	for _, c := range []struct {
		line string
		want api.Ins
	}{
		{"set r3 -17", api.Ins{Op: api.Set, Id: 4, A: -1, B: -1, Imm: -17}},
		{"set r3 9223372036854775807", api.Ins{Op: api.Set, Id: 4, A: -1, B: -1, Imm: 1<<63 - 1}},
		{"add r3 r1 r2", api.Ins{Op: api.Add, Id: 4, A: 1, B: 2}},
		{"sub r3 r2 r1", api.Ins{Op: api.Sub, Id: 4, A: 2, B: 1}},
		{"mul r3 r1 r2", api.Ins{Op: api.Mul, Id: 4, A: 1, B: 2}},
		{"div r3 r1 r2", api.Ins{Op: api.Div, Id: 4, A: 1, B: 2}},
		{"and r3 r1 r2", api.Ins{Op: api.And, Id: 4, A: 1, B: 2}},
		{"or r3 r1 r2", api.Ins{Op: api.Or, Id: 4, A: 1, B: 2}},
		{"xor r3 r1 r2", api.Ins{Op: api.Xor, Id: 4, A: 1, B: 2}},
		{"shl r3 r1 r2", api.Ins{Op: api.Shl, Id: 4, A: 1, B: 2}},
		{"sar r3 r1 r2", api.Ins{Op: api.Sar, Id: 4, A: 1, B: 2}},
		{"lt r3 r1 r2", api.Ins{Op: api.Lt, Id: 4, A: 1, B: 2}},
		{"eq r3 r1 r1", api.Ins{Op: api.Eq, Id: 4, A: 1, B: 1}},
		{"load r3 r2", api.Ins{Op: api.Load, Id: 4, A: 2, B: -1}},
		{"store r1 r2", api.Ins{Op: api.Store, Id: -1, A: 1, B: 2}},
		{"store r2 r0", api.Ins{Op: api.Store, Id: -1, A: 2, B: 0}},
		{"jump 3", api.Ins{Op: api.Jump, Id: -1, A: -1, B: -1, Imm: 3}},
		{"if r2 3", api.Ins{Op: api.If, Id: -1, A: 2, B: -1, Imm: 3}},
		{"host r3 r1", api.Ins{Op: api.Host, Id: 4, A: 1, B: -1}},
		{"ret r3", api.Ins{Op: api.Ret, Id: -1, A: 3, B: -1}},
		// A Call reads as many as its function has parameters, A first, also where both are one register.
		{"call r3 1 r1 r2", api.Ins{Op: api.Call, Id: 4, A: -1, B: -1, Imm: 1}},
		{"call r3 2 r1 r2", api.Ins{Op: api.Call, Id: 4, A: 1, B: -1, Imm: 2}},
		{"call r3 2 r2 r2", api.Ins{Op: api.Call, Id: 4, A: 2, B: -1, Imm: 2}},
		{"call r3 3 r1 r2", api.Ins{Op: api.Call, Id: 4, A: 1, B: 2, Imm: 3}},
		{"call r3 0 r2 r2", api.Ins{Op: api.Call, Id: 4, A: 2, B: 2, Imm: 0}},
		{"call r3 1 r4 r4", api.Ins{Op: api.Call, Id: 4, A: -1, B: -1, Imm: 1}},
		{"call r3 2 r1 r4", api.Ins{Op: api.Call, Id: 4, A: 1, B: -1, Imm: 2}},
	} {
		c.want.Pc = 2
		p := told.Text(t, "func 2 5\nset r2 1\nset r3 2\n"+c.line+"\nret r0\nfunc 0 1\njump 0\nfunc 1 1\nret r0\nfunc 2 2\nret r0\n")
		if s, e := ssa.Build(p, 0); e != api.OK || s.Parts[0].Ins[2] != c.want {
			t.Errorf("%q: %v %v, want %v", c.line, s, e, c.want)
		}
	}
}

// TestBuildLimits (P8.2): all registers, places and functions.
func TestBuildLimits(t *testing.T) {
	d := drawn.Die(82)
	round := "func 2 12\n"
	for r := 2; r < api.MaxRegs; r++ {
		round += fmt.Sprintf("set r%d 0\n", r)
	}
	for r := range api.MaxRegs {
		round += fmt.Sprintf("add r%d r%d r0\n", r, r)
	}
	round += "if r0 10\n"
	for r := 1; r < api.MaxRegs; r++ {
		round += fmt.Sprintf("add r0 r0 r%d\n", r)
	}
	p := told.Text(t, strings.Repeat(round+"ret r0\n", api.MaxFuncs))
	for fn := range p.Funcs {
		s := wantTold(t, &d, p, fn)
		if s.Values != 2+10+12+12+11 || len(s.Parts[1].Phis) != api.MaxRegs {
			t.Errorf("function %d: %s", fn, short(s))
		}
	}
	for _, c := range []struct {
		to   func(i, ifs int) int
		phis int
	}{
		{func(i, ifs int) int { return i }, 0},                                      // each leads to itself
		{func(i, ifs int) int { return ifs }, 0},                                    // each leads to the end
		{func(i, ifs int) int { return 0 }, 0},                                      // each leads to the beginning
		{func(i, ifs int) int { return ifs - 1 - i }, 0},                            // they go one by one, from the middle on
		{func(i, ifs int) int { return min(i+[]int{2, 1, -1}[i%3], ifs) }, 12 * 14}, // seven rounds of two that may be entered at both
	} {
		s := wantTold(t, &d, told.Text(t, told.Woven(c.to)), 0)
		if got := phisOf(s); got != c.phis {
			t.Errorf("%s: %d phis are left, want %d", short(s), got, c.phis)
		}
	}
	one := told.Text(t, "func 1 12\n"+strings.Repeat("set r11 5\n", api.MaxCode-1)+"ret r11\n")
	if s := wantTold(t, &d, one, 0); s.Values != api.MaxCode || len(s.Parts) != 1 {
		t.Errorf("one block: %s", short(s))
	}
}
