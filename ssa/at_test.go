package ssa_test

import (
	"math"
	"slices"
	"strings"
	"testing"

	"tierline/api"
	"tierline/drawn"
	"tierline/flow"
	"tierline/ssa"
	"tierline/told"
)

// wantAt: ahead of each place of a function, registers are these values; !, where it is not reached.
func wantAt(t *testing.T, text string, fn int, want ...string) {
	t.Helper()
	p := told.Text(t, text)
	if len(want) != len(p.Funcs[fn].Code) {
		t.Fatalf("%q has other places than %q", text, want)
	}
	for pc, w := range want {
		l, e := ssa.At(p, fn, pc)
		if w == "!" {
			if len(l) != 0 || e != api.ErrNone {
				t.Errorf("At(%q, %d, %d): %v %v, want ErrNone", text, fn, pc, l, e)
			}
		} else if e != api.OK || len(l) != api.MaxRegs || byRegister(l) != w {
			t.Errorf("At(%q, %d, %d): %v %v, want %q", text, fn, pc, l, e, w)
		}
	}
}

// TestAt (P8.1, P8.3): which value each live register is, ahead of each instruction.
func TestAt(t *testing.T) {
	for _, c := range []struct {
		text string
		want []string
	}{
		{counted, []string{"r0=0", "r0=0 r1=1", "r0=3 r1=4 r2=2", "r1=4", "r0=3 r1=4 r2=2", "r0=3 r1=5 r2=2", "r0=6 r1=5 r2=2"}},
		{diamond, []string{"r0=0", "", "r1=1", "", "r1=3"}},
		{nested, []string{"", "r1=2", "r0=3 r1=2", "r0=3 r1=2", "r0=3"}},
		{crossed, []string{"r0=0", "r0=1", "r0=2", "r0=2"}},
		{still, []string{"r0=0 r1=1", "r0=2 r1=1", "r0=2", "!"}},
		{"func 2 2\nret r1\n", []string{"r1=1"}},
		{"func 0 1\njump 0\n", []string{""}},
		// Set again: the last value; set for nothing: none.
		{"func 0 2\nset r0 1\nset r0 2\nset r1 3\nret r0\n", []string{"", "", "r0=1", "r0=1"}},
		// Read and set by one instruction.
		{"func 1 1\nadd r0 r0 r0\nmul r0 r0 r0\nret r0\n", []string{"r0=0", "r0=1", "r0=2"}},
		// Ahead of a Call or a Host, and behind it.
		{"func 1 2\nhost r1 r0\ncall r0 0 r1 r1\nadd r0 r0 r1\nret r0\n", []string{"r0=0", "r1=1", "r0=2 r1=1", "r0=3"}},
		// In the first block, which is led to: the phi, and then what was made.
		{"func 1 1\nadd r0 r0 r0\nif r0 0\nret r0\n", []string{"r0=1", "r0=2", "r0=2"}},
		// From a block that stands further on in the list.
		{"func 1 2\njump 3\nadd r0 r0 r1\nret r0\nset r1 5\njump 1\n", []string{"r0=0", "r0=0 r1=2", "r0=1", "r0=0", "r0=0 r1=2"}},
		// Places that are not reached, amid others and at the end.
		{"func 1 1\njump 2\nset r0 0\nret r0\nret r0\n", []string{"r0=0", "!", "r0=0", "!"}},
		{"func 1 1\nret r0\nif r0 1\njump 0\n", []string{"r0=0", "!", "!"}},
	} {
		wantAt(t, c.text, 0, c.want...)
	}
	text := strings.Repeat(diamond, api.MaxFuncs-1) + still
	wantAt(t, text, api.MaxFuncs-1, "r0=0 r1=1", "r0=2 r1=1", "r0=2", "!")
	wantAt(t, text, api.MaxFuncs-2, "r0=0", "", "r1=1", "", "r1=3")
}

// TestAtLimits (P8.3): the last place, and the last register.
func TestAtLimits(t *testing.T) {
	p := told.Text(t, "func 2 12\n"+strings.Repeat("set r11 5\n", api.MaxCode-1)+"ret r11\n")
	want := slices.Repeat([]int{-1}, api.MaxRegs)
	want[11] = 2 + api.MaxCode - 2
	if l, e := ssa.At(p, 0, api.MaxCode-1); e != api.OK || !slices.Equal(l, want) {
		t.Errorf("%v %v, want %v", l, e, want)
	}
	all := told.Text(t, told.Woven(func(i, ifs int) int { return i }))
	if l, e := ssa.At(all, 0, 20); e != api.OK || !slices.Equal(l, []int{0, 1, 2, 3, 4, 5, 6, 7, 8, 9, 10, 11}) {
		t.Errorf("%v %v, want all twelve", l, e)
	}
}

// TestAtAndBuild (P8.2, P8.3): At a block's beginning is its In, and what an instruction reads is what its registers are; live are those that flow tells.
func TestAtAndBuild(t *testing.T) {
	d := drawn.Die(83)
	for i := range 300 {
		p := drawn.Any(&d, i)
		for fn, f := range p.Funcs {
			s, _ := ssa.Build(p, fn)
			live, _ := flow.Live(p, fn)
			for _, part := range s.Parts {
				for i, x := range part.Ins {
					at, e := ssa.At(p, fn, x.Pc)
					if e != api.OK || i == 0 && !slices.Equal(at, part.In[:]) {
						t.Fatalf("At(%v, %d, %d): %v %v, but In is %v", p, fn, x.Pc, at, e, part.In)
					}
					if y := f.Code[x.Pc]; x.A >= 0 && at[y.A] != x.A || x.B >= 0 && at[y.B] != x.B {
						t.Fatalf("At(%v, %d, %d): %v, but it reads %v", p, fn, x.Pc, at, x)
					}
					for r, value := range at {
						if (value >= 0) != (live[x.Pc]>>r&1 != 0) || value < -1 || value >= s.Values {
							t.Fatalf("At(%v, %d, %d): %v, but %b are live", p, fn, x.Pc, at, live[x.Pc])
						}
					}
				}
			}
		}
	}
}

// TestAtRefuses (P8.3): there is no such place of the function that is asked for.
func TestAtRefuses(t *testing.T) {
	p := told.Text(t, counted+still+"func 1 1\n"+strings.Repeat("ret r0\n", api.MaxCode))
	for fn, f := range p.Funcs {
		n := len(f.Code)
		for _, pc := range []int{-1, -2, n, n + 1, api.MaxCode, 1 << 32, -1 << 32, math.MinInt, math.MaxInt} {
			if l, e := ssa.At(p, fn, pc); len(l) != 0 || e != api.ErrRange {
				t.Errorf("At(%d, %d): %v %v, want ErrRange", fn, pc, l, e)
			}
		}
		if _, e := ssa.At(p, fn, n-1); e == api.ErrRange {
			t.Errorf("At(%d, %d) is ErrRange", fn, n-1)
		}
	}
}
