// Package told: what instructions do with ways, blocks and registers, told anew from the document's words, so that the tests of the layers have something to hold these against; texts of programs; what all layers are asked: whether they leave alone what is handed in, and whether lists share memory; runs that must begin, and runs in which values are kept.
package told

import (
	"slices"

	"tierline/api"
	"tierline/drawn"
	"tierline/sheet"
	"tierline/step"
)

// tester: as much of a test as is needed to end it.
type tester interface {
	Helper()
	Fatalf(format string, l ...any)
}

// Text: the program of a text that must be one's.
func Text(t tester, s string) api.Program {
	t.Helper()
	p, _, e := sheet.Read(s)
	if e != api.OK {
		t.Fatalf("Read(%q): %v, want OK", s, e)
	}
	return p
}

// Begin a run that must not be refused.
func Begin(t tester, p api.Program, args, answers []int, fuel int) api.State {
	t.Helper()
	s, e := step.Begin(p, args, answers, fuel)
	if e != api.OK {
		t.Fatalf("Begin(%v, %v, %v, %d): %v, want OK", p, args, answers, fuel, e)
	}
	return s
}

// Behind: the places to which ways go from one (P3.1).
func Behind(f api.Func, pc int) []int {
	switch f.Code[pc].Op {
	case api.Ret:
		return nil
	case api.Jump:
		return []int{f.Code[pc].Imm}
	case api.If:
		return []int{f.Code[pc].Imm, pc + 1}
	}
	return []int{pc + 1}
}

// Reached: for each place of a function, and its end, whether some way leads to it (P3.1).
func Reached(f api.Func) []bool {
	seen := make([]bool, len(f.Code)+1)
	reach(f, 0, seen)
	return seen
}

// reach: marks a place, and each one to which ways go from there.
func reach(f api.Func, pc int, seen []bool) {
	if seen[pc] {
		return
	}
	seen[pc] = true
	if pc < len(f.Code) {
		for _, to := range Behind(f, pc) {
			reach(f, to, seen)
		}
	}
}

// ReadBy an instruction (P1.1), as registers.
func ReadBy(p api.Program, x api.Instr) []int {
	switch x.Op {
	case api.Set, api.Jump:
		return nil
	case api.Load, api.Host, api.If, api.Ret:
		return []int{x.A}
	case api.Call:
		return []int{x.A, x.B}[:p.Funcs[x.Imm].Params]
	}
	return []int{x.A, x.B}
}

// SetBy: does an instruction set that register (P1.1)?
func SetBy(x api.Instr, reg int) bool {
	return !slices.Contains([]int{api.Store, api.Jump, api.If, api.Ret}, x.Op) && x.Dst == reg
}

// Apart: do no two of these lists share memory, spare room neither? A number of its own is written into each element of a list; where two share one, the later list's number stands in both.
func Apart[T any](lists [][]T, number func(x *T) *int) bool {
	for i, l := range lists {
		l = l[:cap(l)]
		for j := range l {
			*number(&l[j]) = i
		}
	}
	for i, l := range lists {
		l = l[:cap(l)]
		for j := range l {
			if *number(&l[j]) != i {
				return false
			}
		}
	}
	return true
}

// Given: a call leaves the program that is handed in as it is, its spare room too, and what it answers hangs on none of that memory. It is asked as a function that tells the answer as a text.
func Given(t tester, p api.Program, ask func(p api.Program) func() string) {
	t.Helper()
	q, asItWas := drawn.Roomy(p)
	answer := ask(q)
	want := answer()
	if !slices.EqualFunc(p.Funcs, q.Funcs, sameFunc) || !asItWas() {
		t.Fatalf("%v was changed to %v", p, q)
	}
	for i := range q.Funcs {
		clear(q.Funcs[i].Code)
	}
	clear(q.Funcs)
	if got := answer(); got != want {
		t.Fatalf("%s hangs on what was handed in: %s", want, got)
	}
}

func sameFunc(f, g api.Func) bool {
	return f.Params == g.Params && f.Regs == g.Regs && slices.Equal(f.Code, g.Code)
}
