// Package drawn: programs that look drawn, for the tests of the layers. They are the same each time, as they hang on what the die is at the beginning alone.
package drawn

import (
	"slices"

	"tierline/api"
	"tierline/ops"
	"tierline/proof"
)

// Die: numbers that look drawn.
type Die uint64

// Bits: 64 of them. What the die is steps on by a fixed rule, and is stirred, as its low bits repeat soon.
func (d *Die) Bits() uint64 {
	*d = *d*6364136223846793005 + 1442695040888963407
	x := uint64(*d)
	x = (x ^ x>>32) * 0x9e3779b97f4a7c15
	return x ^ x>>29
}

// Below: a number from 0 to most - 1 (most is above 0).
func (d *Die) Below(most int) int { return int(d.Bits() % uint64(most)) }

// Program that is well shaped, within all limits and with all ops.
func Program(d *Die) api.Program {
	funcs := 1 + d.Below(api.MaxFuncs)
	var p api.Program
	for range funcs {
		f := api.Func{Regs: 1 + d.Below(api.MaxRegs), Code: make([]api.Instr, 1+d.Below(api.MaxCode))}
		f.Params = d.Below(1 + min(f.Regs, api.MaxParams))
		for i := range f.Code {
			f.Code[i] = Instr(d, f.Regs, len(f.Code), funcs)
		}
		p.Funcs = append(p.Funcs, f)
	}
	return p
}

// Right: a program that reads nothing that was not set, as each function sets all its registers first, and no way goes on behind its last instruction.
func Right(d *Die) api.Program {
	funcs := 1 + d.Below(api.MaxFuncs)
	var p api.Program
	for range funcs {
		p.Funcs = append(p.Funcs, rightFunc(d, funcs))
	}
	return p
}

func rightFunc(d *Die, funcs int) api.Func {
	f := api.Func{Regs: 1 + d.Below(api.MaxRegs)}
	f.Params = d.Below(1 + min(f.Regs, api.MaxParams))
	for r := f.Params; r < f.Regs; r++ {
		f.Code = append(f.Code, api.Instr{Op: api.Set, Dst: r, Imm: d.Below(9) - 2})
	}
	places := len(f.Code) + 1 + d.Below(api.MaxCode-len(f.Code))
	for len(f.Code) < places-1 {
		f.Code = append(f.Code, Instr(d, f.Regs, places, funcs))
	}
	f.Code = append(f.Code, last(d, f.Regs, places))
	return f
}

// Tangled: a right program most of whose instructions lead elsewhere, if there is room behind those that set its registers.
func Tangled(d *Die) api.Program {
	p := Right(d)
	for _, f := range p.Funcs {
		for pc := f.Regs - f.Params; pc < len(f.Code)-1; pc++ {
			switch d.Below(5) {
			case 0:
				f.Code[pc] = api.Instr{Op: api.Jump, Imm: d.Below(len(f.Code))}
			case 1, 2:
				f.Code[pc] = api.Instr{Op: api.If, A: d.Below(f.Regs), Imm: d.Below(len(f.Code))}
			}
		}
	}
	return p
}

// Partly: a right program that does not set all registers first: of one that does, some instructions are others.
func Partly(d *Die) api.Program {
	for {
		p := Right(d)
		for range 1 + d.Below(5) {
			f := p.Funcs[d.Below(len(p.Funcs))]
			f.Code[d.Below(min(12, len(f.Code)))] = Instr(d, f.Regs, len(f.Code), len(p.Funcs))
		}
		if proof.Check(p) == api.OK {
			return p
		}
	}
}

// Any of the kinds of right programs, in turn.
func Any(d *Die, i int) api.Program {
	switch i % 3 {
	case 0:
		return Right(d)
	case 1:
		return Partly(d)
	}
	return Tangled(d)
}

// last: an instruction behind which no way goes on.
func last(d *Die, regs, places int) api.Instr {
	if d.Below(2) == 0 {
		return api.Instr{Op: api.Jump, Imm: d.Below(places)}
	}
	return api.Instr{Op: api.Ret, A: d.Below(regs)}
}

// Instr that is well shaped in a function of so many registers and places, in a program of so many functions.
func Instr(d *Die, regs, places, funcs int) api.Instr {
	x := api.Instr{Op: 1 + d.Below(api.Ret)}
	has := ops.Has(x.Op)
	if has&ops.Dst != 0 {
		x.Dst = d.Below(regs)
	}
	if has&ops.A != 0 {
		x.A = d.Below(regs)
	}
	if has&ops.B != 0 {
		x.B = d.Below(regs)
	}
	switch {
	case has&ops.Number != 0:
		x.Imm = int(d.Bits()) >> d.Below(64)
	case has&ops.Target != 0:
		x.Imm = d.Below(places)
	case has&ops.Function != 0:
		x.Imm = d.Below(funcs)
	}
	return x
}

// Args of a program.
func Args(d *Die, p api.Program) []int {
	l := make([]int, p.Funcs[0].Params)
	for i := range l {
		l[i] = d.Below(20) - 2
	}
	return l
}

// Greatest: a program at all limits, whose parameters, registers and places are as many as may be.
func Greatest() api.Program {
	var p api.Program
	for range api.MaxFuncs {
		f := api.Func{Params: api.MaxParams, Regs: api.MaxRegs}
		for range api.MaxCode {
			f.Code = append(f.Code, api.Instr{Op: api.Ret})
		}
		f.Code[0] = api.Instr{Op: api.Call, Dst: api.MaxRegs - 1, A: api.MaxRegs - 1, B: api.MaxRegs - 1, Imm: api.MaxFuncs - 1}
		f.Code[1] = api.Instr{Op: api.If, A: api.MaxRegs - 1, Imm: api.MaxCode - 1}
		p.Funcs = append(p.Funcs, f)
	}
	return p
}

// Wrong: programs that are not right, one for each error.
func Wrong() []api.Program {
	ret := api.Instr{Op: api.Ret}
	one := func(params, regs int, l ...api.Instr) api.Program {
		return api.Program{Funcs: []api.Func{{Params: params, Regs: regs, Code: l}}}
	}
	return []api.Program{
		{},                                // ErrSize
		one(0, 0, ret),                    // ErrRange
		one(1, 1, api.Instr{Op: 99}, ret), // ErrKind
		one(0, 1, ret),                    // ErrUnset
		one(1, 1, api.Instr{Op: api.Set}), // ErrEnd
	}
}

// WrongAnywhere: the programs that are not right, and the same ones behind a function in which nothing is wrong, and which calls none of them.
func WrongAnywhere() []api.Program {
	l := Wrong()
	for _, p := range Wrong() {
		if len(p.Funcs) > 0 {
			first := api.Func{Params: 1, Regs: 1, Code: []api.Instr{{Op: api.Ret}, {Op: api.Ret}}}
			l = append(l, api.Program{Funcs: append([]api.Func{first}, p.Funcs...)})
		}
	}
	return l
}

// Roomy: a program whose lists have spare room, and a question whether that room is as it was.
func Roomy(p api.Program) (api.Program, func() bool) {
	mark := api.Instr{Op: 77, Dst: 77, A: 77, B: 77, Imm: 77}
	funcs := make([]api.Func, len(p.Funcs)+1)
	for i, f := range p.Funcs {
		f.Code = append(slices.Clone(f.Code), mark)[:len(f.Code)]
		funcs[i] = f
	}
	funcs[len(p.Funcs)] = api.Func{Params: 77, Regs: 77}
	return api.Program{Funcs: funcs[:len(p.Funcs)]}, func() bool {
		for _, f := range funcs[:len(p.Funcs)] {
			if f.Code[:len(f.Code)+1][len(f.Code)] != mark {
				return false
			}
		}
		last := funcs[len(p.Funcs)]
		return last.Params == 77 && last.Regs == 77 && last.Code == nil
	}
}
