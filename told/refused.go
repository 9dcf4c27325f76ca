package told

import (
	"math"

	"tierline/api"
	"tierline/code"
	"tierline/drawn"
	"tierline/proof"
)

// Refused: asks for each of some functions that must be refused, and with which error: there is no such one, or the program is not right, which is told first, and also where another function is asked for.
func Refused(t tester, ask func(p api.Program, fn int, want api.Errno)) {
	t.Helper()
	for _, s := range []string{Counted, Diamond + Still, Nested + Crossed + Still, Nested + Nested + Nested + Nested} {
		p := Text(t, s)
		n := len(p.Funcs)
		for _, fn := range []int{-1, n, n + 1, api.MaxFuncs, 1 << 32, -1 << 32, math.MinInt, math.MaxInt} {
			ask(p, fn, api.ErrRange)
		}
	}
	for _, p := range drawn.WrongAnywhere() {
		for _, fn := range []int{0, 1, -1, 9, math.MinInt, math.MaxInt} {
			ask(p, fn, proof.Check(p))
		}
	}
}

// Decoded: if bytes are a program's, asks for its first function, if it must be refused, and with which error, else for each one.
func Decoded(l []byte, refused func(p api.Program, fn int, want api.Errno), right func(p api.Program, fn int)) {
	p, e := code.Decode(l)
	if e != api.OK {
		return
	}
	if want := proof.Check(p); want != api.OK {
		refused(p, 0, want)
		return
	}
	for fn := range p.Funcs {
		right(p, fn)
	}
}
