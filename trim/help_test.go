package trim_test

import (
	"fmt"

	"tierline/api"
	"tierline/told"
)

const counted = told.Counted

// whereOf the places of a function, by its words (P5.1): the ones ahead are counted anew for each.
func whereOf(f api.Func) []int {
	seen := told.Reached(f)
	l := make([]int, len(f.Code))
	for pc := range l {
		for ahead := range pc {
			if seen[ahead] {
				l[pc]++
			}
		}
		if !seen[pc] {
			l[pc] = -1
		}
	}
	return l
}

// calledOf a program, by its words (P5.2): as often as there are functions, each one that is called calls others.
func calledOf(p api.Program) []bool {
	l := make([]bool, len(p.Funcs))
	l[0] = true
	for range p.Funcs {
		for fn, f := range p.Funcs {
			for pc, n := range whereOf(f) {
				if l[fn] && n >= 0 && f.Code[pc].Op == api.Call {
					l[f.Code[pc].Imm] = true
				}
			}
		}
	}
	return l
}

// left of a program, by its words (P5.3).
func left(p api.Program) api.Program {
	var q api.Program
	called := calledOf(p)
	for fn, f := range p.Funcs {
		if !called[fn] {
			continue
		}
		l := whereOf(f)
		g := api.Func{Params: f.Params, Regs: f.Regs}
		for pc, x := range f.Code {
			if l[pc] < 0 {
				continue
			}
			switch x.Op {
			case api.Jump, api.If:
				x.Imm = l[x.Imm]
			case api.Call:
				x.Imm = calledAhead(called, x.Imm)
			}
			g.Code = append(g.Code, x)
		}
		q.Funcs = append(q.Funcs, g)
	}
	return q
}

// calledAhead: how many functions ahead of one are called.
func calledAhead(called []bool, fn int) int {
	n := 0
	for _, c := range called[:fn] {
		if c {
			n++
		}
	}
	return n
}

// same: a list without elements may be nil or not, which a text does not tell.
func same(a, b any) bool { return fmt.Sprint(a) == fmt.Sprint(b) }
