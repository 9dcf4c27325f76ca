package proof_test

import (
	"slices"
	"testing"

	"tierline/api"
	"tierline/code"
	"tierline/drawn"
	"tierline/proof"
	"tierline/told"
)

// shaken: a right program in which some instructions are others, so that it may be right no more.
func shaken(d *drawn.Die) api.Program {
	p := drawn.Right(d)
	for range d.Below(6) {
		f := p.Funcs[d.Below(len(p.Funcs))]
		f.Code[d.Below(len(f.Code))] = drawn.Instr(d, f.Regs, len(f.Code), len(p.Funcs))
	}
	return p
}

// without: for each place, and the function's end, whether some way leads to it on which a register is not set; -1: whether there is any way at all.
func without(f api.Func, reg int) []bool {
	seen := make([]bool, len(f.Code)+1)
	if reg >= 0 && reg < f.Params {
		return seen
	}
	work := []int{0}
	for len(work) > 0 {
		pc := work[len(work)-1]
		work = work[:len(work)-1]
		if seen[pc] {
			continue
		}
		seen[pc] = true
		if pc < len(f.Code) && !told.SetBy(f.Code[pc], reg) {
			work = append(work, told.Behind(f, pc)...)
		}
	}
	return seen
}

// sureOf a function, by its words (P3.2): register by register, it is looked for a way that does not set it.
func sureOf(f api.Func) []int {
	reached := without(f, -1)
	l := make([]int, len(f.Code))
	for r := range f.Regs {
		unset := without(f, r)
		for pc := range l {
			if !unset[pc] {
				l[pc] |= 1 << r
			}
		}
	}
	for pc := range l {
		if !reached[pc] {
			l[pc] = -1
		}
	}
	return l
}

// rightOf a well shaped program, by its words (P3.3).
func rightOf(p api.Program) api.Errno {
	for _, f := range p.Funcs {
		for pc, x := range f.Code {
			for _, r := range told.ReadBy(p, x) {
				if without(f, r)[pc] {
					return api.ErrUnset
				}
			}
		}
		if without(f, -1)[len(f.Code)] {
			return api.ErrEnd
		}
	}
	return api.OK
}

// misshapen: programs that code's Check refuses, and how.
func misshapen() map[string]api.Program {
	ret := api.Instr{Op: api.Ret}
	one := func(params, regs int, l ...api.Instr) api.Program {
		return api.Program{Funcs: []api.Func{{Params: params, Regs: regs, Code: l}}}
	}
	return map[string]api.Program{
		"no functions":           {},
		"no functions, not nil":  {Funcs: []api.Func{}},
		"too many functions":     {Funcs: make([]api.Func, api.MaxFuncs+1)},
		"no code":                one(1, 1),
		"too much code":          one(1, 1, slices.Repeat([]api.Instr{ret}, api.MaxCode+1)...),
		"no registers":           one(0, 0, ret),
		"too many registers":     one(1, api.MaxRegs+1, ret),
		"too many parameters":    one(api.MaxParams+1, api.MaxRegs, ret),
		"parameters below 0":     one(-1, 1, ret),
		"no op":                  one(1, 1, api.Instr{}),
		"no such op":             one(1, 1, api.Instr{Op: api.Ret + 1}),
		"register too far":       one(1, 1, api.Instr{Op: api.Ret, A: 1}),
		"register below 0":       one(1, 1, api.Instr{Op: api.Ret, A: -1}),
		"register set below 0":   one(1, 1, api.Instr{Op: api.Set, Dst: -1}, ret),
		"target is the end":      one(1, 1, api.Instr{Op: api.Jump, Imm: 1}),
		"target below 0":         one(1, 1, api.Instr{Op: api.If, Imm: -1}, ret),
		"no such function":       one(1, 1, api.Instr{Op: api.Call, Imm: 1}, ret),
		"function below 0":       one(1, 1, api.Instr{Op: api.Call, Imm: -1}, ret),
		"a field it has not":     one(1, 2, api.Instr{Op: api.Ret, B: 1}),
		"in an unreached place":  one(1, 1, ret, api.Instr{Op: api.Ret, A: 5}),
		"behind what is unset":   {Funcs: []api.Func{{Regs: 1, Code: []api.Instr{ret}}, {Regs: 1, Code: []api.Instr{{Op: 99}}}}},
		"behind an end":          {Funcs: []api.Func{{Regs: 1, Code: []api.Instr{{Op: api.Set}}}, {Regs: 1}}},
		"call with B out of its": one(1, 1, api.Instr{Op: api.Call, B: 1}, ret),
	}
}

// TestMisshapen (P3.2, P3.3, P3.4): what code's Check refuses is refused with the same error, ahead of a function or place that is none.
func TestMisshapen(t *testing.T) {
	for what, p := range misshapen() {
		want := code.Check(p)
		if want == api.OK {
			t.Fatalf("%s: it is well shaped", what)
		}
		if e := proof.Check(p); e != want {
			t.Errorf("%s: Check: %v, want %v", what, e, want)
		}
		for _, n := range []int{0, -1, 1, api.MaxFuncs, 1 << 40} {
			if l, e := proof.Sure(p, n); len(l) != 0 || e != want {
				t.Errorf("%s: Sure(%d): %v %v, want %v", what, n, l, e, want)
			}
			if r, s, e := proof.Reads(p, n, n); r != 0 || s != 0 || e != want {
				t.Errorf("%s: Reads(%d, %d): %d %d %v, want %v", what, n, n, r, s, e, want)
			}
		}
	}
}
