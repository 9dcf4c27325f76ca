package sheet

import (
	"strconv"

	"tierline/api"
	"tierline/ops"
)

func appendFunc(l []byte, f api.Func) []byte {
	l = append(l, funcWord...)
	l = appendNumber(l, f.Params)
	l = appendNumber(l, f.Regs)
	return append(l, '\n')
}

func appendInstr(l []byte, x api.Instr) []byte {
	has := ops.Has(x.Op)
	l = append(l, words[x.Op]...)
	if has&ops.Dst != 0 {
		l = appendRegister(l, x.Dst)
	}
	if has&(ops.Number|ops.Function) != 0 {
		l = appendNumber(l, x.Imm)
	}
	if has&ops.A != 0 {
		l = appendRegister(l, x.A)
	}
	if has&ops.B != 0 {
		l = appendRegister(l, x.B)
	}
	if has&ops.Target != 0 {
		l = appendNumber(l, x.Imm)
	}
	return append(l, '\n')
}

func appendRegister(l []byte, n int) []byte {
	return strconv.AppendInt(append(l, " r"...), int64(n), 10)
}

func appendNumber(l []byte, n int) []byte {
	return strconv.AppendInt(append(l, ' '), int64(n), 10)
}
