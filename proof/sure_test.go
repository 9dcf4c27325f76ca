package proof_test

import (
	"fmt"
	"math"
	"slices"
	"strings"
	"testing"

	"tierline/api"
	"tierline/drawn"
	"tierline/proof"
	"tierline/told"
)

func wantSure(t *testing.T, p api.Program, fn int, want []int) {
	t.Helper()
	if l, e := proof.Sure(p, fn); e != api.OK || !slices.Equal(l, want) {
		t.Errorf("Sure(%v, %d): %v %v, want %v", p, fn, l, e, want)
	}
}

// TestSure (P3.1, P3.2): ways, and what is set on each of them.
func TestSure(t *testing.T) {
	for _, c := range []struct {
		s    string
		want []int
	}{
		{"func 1 3\nset r1 0\nset r2 -1\nif r0 4\nret r1\nadd r1 r1 r0\nadd r0 r0 r2\njump 2\n", []int{1, 3, 7, 7, 7, 7, 7}},
		{"func 0 1\nret r0\n", []int{0}},
		{"func 2 2\nret r0\n", []int{3}},
		{"func 2 12\nret r0\n", []int{3}},
		{"func 0 3\nset r2 0\nset r0 0\nset r2 1\nret r1\n", []int{0, 4, 5, 5}},
		// Behind a Ret and a Jump no way goes on; an If goes both ways, also at the last place, and also to the next one.
		{"func 1 1\nret r0\nret r0\n", []int{1, -1}},
		{"func 1 1\njump 2\nret r0\nret r0\n", []int{1, -1, 1}},
		{"func 1 1\njump 0\nret r0\n", []int{1, -1}},
		{"func 1 1\njump 1\nret r0\n", []int{1, 1}},
		{"func 1 1\nif r0 2\nret r0\nret r0\n", []int{1, 1, 1}},
		{"func 1 1\nif r0 1\nret r0\n", []int{1, 1}},
		{"func 1 2\njump 2\nset r1 0\nif r0 1\n", []int{1, 1, 1}},
		// A place behind which no way goes leads nowhere, and unreached places neither.
		{"func 0 2\njump 3\nset r0 0\njump 3\nset r1 0\nret r1\n", []int{0, -1, -1, 0, 2}},
		{"func 0 2\njump 3\nset r0 0\nset r1 0\nset r1 0\nif r1 3\nret r1\n", []int{0, -1, -1, 0, 2, 2}},
		// Of two ways what is set on both counts.
		{"func 1 4\nif r0 4\nset r1 0\nset r2 0\njump 6\nset r2 0\nset r3 0\nret r2\n", []int{1, 1, 3, 7, 1, 5, 5}},
		{"func 1 3\nif r0 3\nset r1 0\nset r2 0\nret r0\n", []int{1, 1, 3, 1}},
		// A way from behind cuts down places ahead of it, and those that they lead to.
		{"func 1 3\njump 3\nset r2 0\nif r2 5\nset r1 0\njump 2\nret r1\n", []int{1, -1, 3, 1, 3, 3}},
		{"func 1 4\nset r1 0\nset r2 0\njump 5\nset r3 0\nret r3\nif r0 3\njump 3\n", []int{1, 3, 7, 7, 15, 7, 7}},
		// The beginning may be come to again: its ways set no fewer.
		{"func 1 2\nset r1 0\njump 0\n", []int{1, 3}},
		{"func 0 2\nset r1 0\nif r1 0\nset r0 0\njump 0\n", []int{0, 2, 2, 3}},
		// What the other ops set, and that some set none; what a register holds does not matter.
		{"func 2 6\nadd r2 r0 r1\nload r3 r0\nhost r4 r0\ncall r5 0 r0 r1\nret r0\n", []int{3, 7, 15, 31, 63}},
		{"func 2 3\nstore r0 r1\nif r0 2\njump 3\nret r0\n", []int{3, 3, 3, 3}},
		{"func 0 1\nset r0 0\nif r0 3\nret r0\nret r0\n", []int{0, 1, 1, 1}},
		// It is asked of programs that are not right, too: they read what was not set, or run out.
		{"func 0 3\nadd r0 r1 r2\nstore r1 r2\nret r2\n", []int{0, 1, 1}},
		{"func 0 2\nset r1 0\n", []int{0}},
		{"func 1 1\nif r0 0\n", []int{1}},
	} {
		wantSure(t, told.Text(t, c.s), 0, c.want)
	}
}

// TestSureLimits (P3.2): all registers, places and functions; a fall that comes from the end, place by place back to the beginning.
func TestSureLimits(t *testing.T) {
	all := func(n int) string {
		s := "func 0 12\n"
		for r := range api.MaxRegs {
			s += fmt.Sprintf("set r%d 0\n", r)
		}
		return s + strings.Repeat("set r0 0\n", n-api.MaxRegs-1) + "ret r11\n"
	}
	want := slices.Repeat([]int{1<<api.MaxRegs - 1}, api.MaxCode)
	for r := range api.MaxRegs {
		want[r] = 1<<r - 1
	}
	p := told.Text(t, strings.Repeat(all(api.MaxCode), api.MaxFuncs))
	for fn := range api.MaxFuncs {
		wantSure(t, p, fn, want)
	}
	back := "func 1 2\nif r0 39\nset r1 0\njump 3\n"
	for pc := 3; pc < api.MaxCode-1; pc++ {
		back += fmt.Sprintf("if r0 %d\n", max(3, pc-1))
	}
	fallen := slices.Repeat([]int{1}, api.MaxCode)
	fallen[2] = 3
	wantSure(t, told.Text(t, back+"jump 38\n"), 0, fallen)
}

// TestSureOfEach (P3.2): the function that is asked for, with its own parameters; one that nobody calls is reached in itself all the same.
func TestSureOfEach(t *testing.T) {
	p := told.Text(t, "func 0 1\nset r0 0\nret r0\nfunc 2 3\nret r0\nret r1\nfunc 1 2\nset r1 0\nset r0 0\nret r1\n")
	wantSure(t, p, 0, []int{0, 1})
	wantSure(t, p, 1, []int{3, -1})
	wantSure(t, p, 2, []int{1, 3, 3})
}

// TestSureRefuses (P3.2): there is no such function.
func TestSureRefuses(t *testing.T) {
	for n := 1; n <= api.MaxFuncs; n++ {
		p := told.Text(t, strings.Repeat("func 1 1\nret r0\n", n))
		for _, fn := range []int{-1, n, n + 1, api.MaxFuncs, 1 << 32, math.MinInt, math.MaxInt} {
			if l, e := proof.Sure(p, fn); len(l) != 0 || e != api.ErrRange {
				t.Errorf("Sure(%d) of %d functions: %v %v, want ErrRange", fn, n, l, e)
			}
		}
	}
}

// TestSureDrawn (P3.1, P3.2): drawn programs, held against the chapter's words; they stay as they were.
func TestSureDrawn(t *testing.T) {
	d := drawn.Die(31)
	falls, unreached := 0, 0
	for i := range 1500 {
		p := shaken(&d)
		if i%3 == 0 {
			p = drawn.Program(&d)
		}
		before := fmt.Sprint(p)
		for fn, f := range p.Funcs {
			want := sureOf(f)
			wantSure(t, p, fn, want)
			if slices.Contains(want, -1) {
				unreached++
			}
			for pc := 1; pc < len(want); pc++ {
				if want[pc] >= 0 && want[pc-1]&^want[pc] != 0 && want[pc-1] >= 0 {
					falls++
					break
				}
			}
		}
		if fmt.Sprint(p) != before {
			t.Fatalf("Sure changed %s to %v", before, p)
		}
	}
	if falls < 100 || unreached < 100 {
		t.Errorf("only %d functions have registers that are set no more behind a place, only %d have unreached ones", falls, unreached)
	}
}

// TestNewMemory: answers share nothing, spare room neither, and what is handed in keeps its spare room as it was.
func TestNewMemory(t *testing.T) {
	funcs := []api.Func{{Params: 1, Regs: 2}, {Params: 7, Regs: 7}}
	code := []api.Instr{{Op: api.Set, Dst: 1}, {Op: api.Ret}, {Op: 7, Imm: 7}}
	funcs[0].Code = code[:2]
	p := api.Program{Funcs: funcs[:1]}
	before := fmt.Sprint(funcs, code)
	l, _ := proof.Sure(p, 0)
	m, _ := proof.Sure(p, 0)
	clear(l[:cap(l)])
	if !slices.Equal(m, []int{1, 3}) {
		t.Errorf("an answer changed with another one: %v", m)
	}
	proof.Check(p)
	proof.Reads(p, 0, 1)
	if fmt.Sprint(funcs, code) != before {
		t.Errorf("%s is %v %v now", before, funcs, code)
	}
}
