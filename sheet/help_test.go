package sheet_test

import (
	"testing"

	"tierline/api"
	"tierline/sheet"
)

// one: a program of one function with two parameters and all registers, so that only an instruction's own numbers can be wrong.
func one(l ...api.Instr) api.Program {
	return api.Program{Funcs: []api.Func{{Params: 2, Regs: api.MaxRegs, Code: l}}}
}

// shown: the text of a program that must have one.
func shown(t *testing.T, p api.Program) string {
	t.Helper()
	s, e := sheet.Show(p)
	if e != api.OK {
		t.Fatalf("Show(%v): %v, want OK", p, e)
	}
	return s
}

// read: the program of a text that must be one's, at place 0.
func read(t *testing.T, s string) api.Program {
	t.Helper()
	p, place, e := sheet.Read(s)
	if place != 0 || e != api.OK {
		t.Fatalf("Read(%q): place %d, %v, want 0 and OK", s, place, e)
	}
	return p
}

// wantRefused: an error at a place, and no program with it.
func wantRefused(t *testing.T, s string, place int, want api.Errno) {
	t.Helper()
	p, at, e := sheet.Read(s)
	if at != place || e != want || len(p.Funcs) != 0 {
		t.Errorf("Read of %d bytes (%.60q ..): %v, place %d, %v, want place %d, %v", len(s), s, p, at, e, place, want)
	}
}
