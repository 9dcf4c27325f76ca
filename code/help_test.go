package code_test

import (
	"math/rand"
	"testing"

	"tierline/api"
	"tierline/code"
)

// Bounds of the program of around: each differs from the others, so that none can stand in for another.
const (
	regs   = 5
	funcs  = 2
	places = 7
)

// around: a well shaped program with an instruction in the middle of its first function.
func around(x api.Instr) api.Program {
	f := api.Func{Params: 1, Regs: regs}
	for range places - 1 {
		f.Code = append(f.Code, api.Instr{Op: api.Ret, A: 1})
	}
	f.Code = append(f.Code[:3:3], append([]api.Instr{x}, f.Code[3:]...)...)
	return api.Program{Funcs: []api.Func{f, {Regs: 1, Code: []api.Instr{{Op: api.Ret}}}}}
}

// one: a program of one function.
func one(params, regs int, l ...api.Instr) api.Program {
	return api.Program{Funcs: []api.Func{{Params: params, Regs: regs, Code: l}}}
}

// repeat: so many Rets.
func repeat(n int) []api.Instr {
	l := make([]api.Instr, n)
	for i := range l {
		l[i] = api.Instr{Op: api.Ret}
	}
	return l
}

// alike: so many functions of a Ret each.
func alike(n int) api.Program {
	var p api.Program
	for range n {
		p.Funcs = append(p.Funcs, api.Func{Regs: 1, Code: repeat(1)})
	}
	return p
}

// greatest: a program at all limits; its parameters, registers and places are as many as may be.
func greatest() api.Program {
	p := alike(api.MaxFuncs)
	for i := range p.Funcs {
		p.Funcs[i] = api.Func{Params: api.MaxParams, Regs: api.MaxRegs, Code: repeat(api.MaxCode)}
		p.Funcs[i].Code[0] = api.Instr{Op: api.Call, Dst: api.MaxRegs - 1, A: api.MaxRegs - 1, B: api.MaxRegs - 1, Imm: api.MaxFuncs - 1}
		p.Funcs[i].Code[1] = api.Instr{Op: api.If, A: api.MaxRegs - 1, Imm: api.MaxCode - 1}
	}
	return p
}

// draw: a well shaped program that looks drawn, with all ops.
func draw(d *rand.Rand) api.Program {
	p := alike(1 + d.Intn(api.MaxFuncs))
	for i := range p.Funcs {
		f := api.Func{Regs: 1 + d.Intn(api.MaxRegs), Code: make([]api.Instr, 1+d.Intn(api.MaxCode))}
		f.Params = d.Intn(1 + min(f.Regs, api.MaxParams))
		for j := range f.Code {
			f.Code[j] = drawInstr(d, f.Regs, len(f.Code), len(p.Funcs))
		}
		p.Funcs[i] = f
	}
	return p
}

func drawInstr(d *rand.Rand, regs, places, funcs int) api.Instr {
	x := api.Instr{Op: 1 + d.Intn(api.Ret)}
	dst, a, b := d.Intn(regs), d.Intn(regs), d.Intn(regs)
	switch {
	case x.Op == api.Set:
		x.Dst, x.Imm = dst, int(d.Uint64())
	case x.Op <= api.Eq:
		x.Dst, x.A, x.B = dst, a, b
	case x.Op == api.Load || x.Op == api.Host:
		x.Dst, x.A = dst, a
	case x.Op == api.Store:
		x.A, x.B = a, b
	case x.Op == api.Jump:
		x.Imm = d.Intn(places)
	case x.Op == api.If:
		x.A, x.Imm = a, d.Intn(places)
	case x.Op == api.Call:
		x.Dst, x.A, x.B, x.Imm = dst, a, b, d.Intn(funcs)
	default:
		x.A = a
	}
	return x
}

// encoded: the bytes of a program that must have some.
func encoded(t *testing.T, p api.Program) []byte {
	t.Helper()
	l, e := code.Encode(p)
	if e != api.OK {
		t.Fatalf("Encode(%v): %v, want OK", p, e)
	}
	return l
}

func wantCheck(t *testing.T, what string, p api.Program, want api.Errno) {
	t.Helper()
	if got := code.Check(p); got != want {
		t.Errorf("%s: Check: %v, want %v", what, got, want)
	}
}
