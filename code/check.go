package code

import (
	"tierline/api"
	"tierline/ops"
)

func checkFunc(f api.Func, funcs int) api.Errno {
	if f.Regs < 1 || f.Regs > api.MaxRegs {
		return api.ErrRange
	}
	if f.Params < 0 || f.Params > api.MaxParams || f.Params > f.Regs {
		return api.ErrRange
	}
	if len(f.Code) < 1 || len(f.Code) > api.MaxCode {
		return api.ErrSize
	}
	for _, x := range f.Code {
		if e := checkInstr(x, f.Regs, len(f.Code), funcs); e != api.OK {
			return e
		}
	}
	return api.OK
}

func checkInstr(x api.Instr, regs, places, funcs int) api.Errno {
	has := ops.Has(x.Op)
	if has == 0 {
		return api.ErrKind
	}
	if !below(x.Dst, room(has, ops.Dst, regs)) || !below(x.A, room(has, ops.A, regs)) || !below(x.B, room(has, ops.B, regs)) {
		return api.ErrRange
	}
	if !immFits(x.Imm, has, places, funcs) {
		return api.ErrRange
	}
	return api.OK
}

// room: how many numbers, from 0 on, a field may be. One that the instruction does not have must be 0: that is a room for one.
func room(has, part, most int) int {
	if has&part == 0 {
		return 1
	}
	return most
}

func below(n, most int) bool { return n >= 0 && n < most }

func immFits(imm, has, places, funcs int) bool {
	switch {
	case has&ops.Number != 0:
		return true
	case has&ops.Target != 0:
		return below(imm, places)
	}
	return below(imm, room(has, ops.Function, funcs))
}
