package proof_test

import (
	"math"
	"strings"
	"testing"

	"tierline/api"
	"tierline/drawn"
	"tierline/proof"
	"tierline/told"
)

// TestReads (P3.4): what each op reads and sets, at registers that all differ, whether it is reached or not.
func TestReads(t *testing.T) {
	const rest = "ret r0\nfunc 0 1\nset r0 0\nret r0\nfunc 1 1\nret r0\nfunc 2 2\nret r0\n"
	for _, c := range []struct {
		line      string
		read, set int
	}{
		{"set r3 17", 0, 8},
		{"add r3 r4 r5", 48, 8},
		{"sub r3 r4 r5", 48, 8},
		{"mul r3 r4 r5", 48, 8},
		{"div r3 r4 r5", 48, 8},
		{"and r3 r4 r5", 48, 8},
		{"or r3 r4 r5", 48, 8},
		{"xor r3 r4 r5", 48, 8},
		{"shl r3 r4 r5", 48, 8},
		{"sar r3 r4 r5", 48, 8},
		{"lt r3 r4 r5", 48, 8},
		{"eq r3 r4 r5", 48, 8},
		{"load r3 r4", 16, 8},
		{"store r4 r5", 48, 0},
		{"jump 1", 0, 0},
		{"if r4 1", 16, 0},
		{"host r3 r4", 16, 8},
		{"ret r4", 16, 0},
		{"call r3 0 r4 r5", 48, 8},
		{"call r3 1 r4 r5", 0, 8},
		{"call r3 2 r4 r5", 16, 8},
		{"call r3 3 r4 r5", 48, 8},
		// One register more than once; the lowest and the highest one.
		{"add r3 r3 r3", 8, 8},
		{"add r0 r0 r0", 1, 1},
		{"sub r0 r11 r0", 2049, 1},
		{"sub r11 r0 r11", 2049, 2048},
		{"store r11 r11", 2048, 0},
		{"set r0 -1", 0, 1},
		{"load r11 r11", 2048, 2048},
		{"call r11 2 r11 r0", 2048, 2048},
		{"call r0 3 r0 r11", 2049, 1},
		{"call r0 1 r11 r11", 0, 1},
	} {
		for pc, s := range []string{"func 2 12\n" + c.line + "\n" + rest, "func 2 12\nret r0\n" + c.line + "\n" + rest} {
			if r, w, e := proof.Reads(told.Text(t, s), 0, pc); r != c.read || w != c.set || e != api.OK {
				t.Errorf("Reads of %q at %d: %d %d %v, want %d %d", c.line, pc, r, w, e, c.read, c.set)
			}
		}
	}
}

// wantReads of an instruction, as its op's words say (P1.1).
func wantReads(t *testing.T, p api.Program, fn, pc int) {
	t.Helper()
	x := p.Funcs[fn].Code[pc]
	read, set := 0, 0
	for _, r := range told.ReadBy(p, x) {
		read |= 1 << r
	}
	for r := range api.MaxRegs {
		if told.SetBy(x, r) {
			set |= 1 << r
		}
	}
	if r, s, e := proof.Reads(p, fn, pc); r != read || s != set || e != api.OK {
		t.Errorf("Reads(%v, %d, %d): %d %d %v, want %d %d", p, fn, pc, r, s, e, read, set)
	}
}

// TestReadsDrawn (P3.4): each instruction of drawn programs, right or not.
func TestReadsDrawn(t *testing.T) {
	d := drawn.Die(35)
	for range 200 {
		p := drawn.Program(&d)
		for fn, f := range p.Funcs {
			for pc := range f.Code {
				wantReads(t, p, fn, pc)
			}
		}
	}
}

// TestReadsRefuses (P3.4): there is no such function, or no such place of it.
func TestReadsRefuses(t *testing.T) {
	p := told.Text(t, "func 1 1\nset r0 1\nset r0 2\nret r0\nfunc 1 1\n"+strings.Repeat("ret r0\n", api.MaxCode))
	for _, c := range []struct{ fn, pc int }{
		{-1, 0}, {2, 0}, {3, 0}, {api.MaxFuncs, 0}, {math.MinInt, 0}, {math.MaxInt, 0}, {1 << 32, 0},
		{0, -1}, {0, 3}, {0, 4}, {0, api.MaxCode - 1}, {1, api.MaxCode}, {1, -1}, {0, math.MinInt}, {0, math.MaxInt}, {1, 1 << 32},
		{-1, -1}, {2, 3}, {math.MaxInt, math.MaxInt},
	} {
		if r, s, e := proof.Reads(p, c.fn, c.pc); r != 0 || s != 0 || e != api.ErrRange {
			t.Errorf("Reads(%d, %d): %d %d %v, want ErrRange", c.fn, c.pc, r, s, e)
		}
	}
	wantReads(t, p, 0, 2)
	wantReads(t, p, 1, api.MaxCode-1)
}
