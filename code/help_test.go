package code_test

import (
	"testing"

	"tierline/api"
	"tierline/code"
)

// Bounds of the program of around: each differs from the others, so that none can stand in for another.
const (
	regs   = 5
	funcs  = 2
	places = 7
)

// around: a well shaped program with an instruction in the middle of its first function.
func around(x api.Instr) api.Program {
	f := api.Func{Params: 1, Regs: regs}
	for range places - 1 {
		f.Code = append(f.Code, api.Instr{Op: api.Ret, A: 1})
	}
	f.Code = append(f.Code[:3:3], append([]api.Instr{x}, f.Code[3:]...)...)
	return api.Program{Funcs: []api.Func{f, {Regs: 1, Code: []api.Instr{{Op: api.Ret}}}}}
}

// one: a program of one function.
func one(params, regs int, l ...api.Instr) api.Program {
	return api.Program{Funcs: []api.Func{{Params: params, Regs: regs, Code: l}}}
}

// repeat: so many Rets.
func repeat(n int) []api.Instr {
	l := make([]api.Instr, n)
	for i := range l {
		l[i] = api.Instr{Op: api.Ret}
	}
	return l
}

// alike: so many functions of a Ret each.
func alike(n int) api.Program {
	var p api.Program
	for range n {
		p.Funcs = append(p.Funcs, api.Func{Regs: 1, Code: repeat(1)})
	}
	return p
}

// encoded: the bytes of a program that must have some.
func encoded(t *testing.T, p api.Program) []byte {
	t.Helper()
	l, e := code.Encode(p)
	if e != api.OK {
		t.Fatalf("Encode(%v): %v, want OK", p, e)
	}
	return l
}

func wantCheck(t *testing.T, what string, p api.Program, want api.Errno) {
	t.Helper()
	if got := code.Check(p); got != want {
		t.Errorf("%s: Check: %v, want %v", what, got, want)
	}
}
