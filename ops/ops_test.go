package ops

import (
	"math"
	"testing"

	"tierline/api"
)

// TestHas (P1.1): what each op has, by the letters of its parts.
func TestHas(t *testing.T) {
	letters := map[int]int{'d': Dst, 'a': A, 'b': B, 'n': Number, 't': Target, 'f': Function}
	want := map[int]string{
		api.Set: "dn",
		api.Add: "dab", api.Sub: "dab", api.Mul: "dab", api.Div: "dab", api.And: "dab", api.Or: "dab",
		api.Xor: "dab", api.Shl: "dab", api.Sar: "dab", api.Lt: "dab", api.Eq: "dab",
		api.Load: "da", api.Host: "da", api.Store: "ab",
		api.Jump: "t", api.If: "at", api.Call: "dabf", api.Ret: "a",
	}
	for op := -3; op <= 30; op++ {
		bits := 0
		for _, c := range want[op] {
			bits |= letters[int(c)]
		}
		if got := Has(op); got != bits {
			t.Errorf("op %d has %b, want %b (%q)", op, got, bits, want[op])
		}
	}
}

// TestHasNone (P1.1): ops far away are none, and none panics.
func TestHasNone(t *testing.T) {
	for _, op := range []int{math.MinInt, math.MinInt32, -1, 0, api.Ret + 1, 255, 256 + api.Set, math.MaxInt32, math.MaxInt} {
		if got := Has(op); got != 0 {
			t.Errorf("op %d has %b, want nothing", op, got)
		}
	}
}

// TestBits (P1.1): each part is a bit of its own.
func TestBits(t *testing.T) {
	seen := 0
	for _, part := range []int{Dst, A, B, Number, Target, Function} {
		if part == 0 || part&(part-1) != 0 || seen&part != 0 {
			t.Errorf("part %b is no bit of its own", part)
		}
		seen |= part
	}
}
