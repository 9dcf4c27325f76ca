package ops

import (
	"testing"

	"tierline/api"
)

// TestReads (P1.1): an op reads what it has of A and B, a Call only as many as its function has parameters, A first.
func TestReads(t *testing.T) {
	p := api.Program{Funcs: []api.Func{{Params: 2}, {Params: 0}, {Params: 1}}}
	for op := api.Set; op <= api.Ret; op++ {
		for fn, called := range []int{A | B, 0, A} {
			want := called
			switch op {
			case api.Set, api.Jump:
				want = 0
			case api.Load, api.Host, api.If, api.Ret:
				want = A
			case api.Call:
			default:
				want = A | B
			}
			if got := Reads(p, api.Instr{Op: op, Imm: fn}); got != want {
				t.Errorf("op %d, Imm %d reads %b, want %b", op, fn, got, want)
			}
		}
	}
}
