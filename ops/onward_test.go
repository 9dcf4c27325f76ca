package ops

import (
	"slices"
	"testing"

	"tierline/api"
)

// TestOnward (P3.1): an If and a Jump go to their targets, a Ret nowhere, all others to the place behind, whatever their Imm is.
func TestOnward(t *testing.T) {
	for op := api.Set; op <= api.Ret; op++ {
		want := []int{8}
		switch op {
		case api.Jump:
			want = []int{3}
		case api.If:
			want = []int{8, 3}
		case api.Ret:
			want = nil
		}
		if l := Onward(api.Instr{Op: op, Imm: 3}, 7); !slices.Equal(l, want) {
			t.Errorf("op %d goes on to %v, want %v", op, l, want)
		}
	}
}
