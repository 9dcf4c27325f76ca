package step_test

import (
	"math"
	"testing"

	"tierline/api"
	"tierline/drawn"
	"tierline/step"
)

func wantMake(t *testing.T, op, a, b, imm, want int) {
	t.Helper()
	if v, e := step.Make(op, a, b, imm); v != want || e != api.OK {
		t.Errorf("Make(%d, %d, %d, %d): %d %v, want %d", op, a, b, imm, v, e, want)
	}
}

// TestMake (P4.4): what each op makes, and what is cut off above.
func TestMake(t *testing.T) {
	for _, c := range []struct{ op, a, b, want int }{
		{api.Add, 2, 3, 5},
		{api.Add, math.MaxInt, 1, math.MinInt},
		{api.Add, math.MinInt, math.MinInt, 0},
		{api.Sub, 2, 3, -1},
		{api.Sub, math.MinInt, 1, math.MaxInt},
		{api.Sub, 0, math.MinInt, math.MinInt},
		{api.Mul, -2, 3, -6},
		{api.Mul, math.MinInt, -1, math.MinInt},
		{api.Mul, 1 << 32, 1 << 32, 0},
		{api.Mul, 1<<32 + 1, 1<<32 + 1, 1<<33 + 1},
		{api.Div, 7, 2, 3},
		{api.Div, -7, 2, -3},
		{api.Div, 7, -2, -3},
		{api.Div, -7, -2, 3},
		{api.Div, 1, 2, 0},
		{api.Div, -1, 2, 0},
		{api.Div, 0, -5, 0},
		{api.Div, math.MinInt, -1, math.MinInt},
		{api.Div, math.MinInt, math.MinInt, 1},
		{api.Div, math.MaxInt, math.MinInt, 0},
		{api.And, 12, 10, 8},
		{api.And, -1, math.MinInt, math.MinInt},
		{api.Or, 12, 10, 14},
		{api.Or, math.MaxInt, math.MinInt, -1},
		{api.Xor, 12, 10, 6},
		{api.Xor, -1, math.MinInt, math.MaxInt},
		{api.Shl, 1, 0, 1},
		{api.Shl, 1, 63, math.MinInt},
		{api.Shl, 1, 64, 1},
		{api.Shl, 1, 65, 2},
		{api.Shl, 1, -1, math.MinInt},
		{api.Shl, 3, -64, 3},
		{api.Shl, 3, 63, math.MinInt},
		{api.Shl, -1, 4, -16},
		{api.Shl, 1, math.MinInt, 1},
		{api.Sar, -7, 1, -4},
		{api.Sar, 7, 1, 3},
		{api.Sar, -1, 63, -1},
		{api.Sar, math.MinInt, 63, -1},
		{api.Sar, math.MaxInt, 63, 0},
		{api.Sar, -7, 64, -7},
		{api.Sar, -8, 65, -4},
		{api.Sar, -8, -63, -4},
		{api.Sar, 8, math.MaxInt, 0},
		{api.Lt, 1, 2, 1},
		{api.Lt, 2, 2, 0},
		{api.Lt, 2, 1, 0},
		{api.Lt, -1, 0, 1},
		{api.Lt, math.MinInt, math.MaxInt, 1},
		{api.Lt, math.MaxInt, math.MinInt, 0},
		{api.Eq, 2, 2, 1},
		{api.Eq, 2, 3, 0},
		{api.Eq, math.MinInt, math.MinInt, 1},
		{api.Eq, 1, 1 + 1<<32, 0},
	} {
		wantMake(t, c.op, c.a, c.b, 0, c.want)
		wantMake(t, c.op, c.a, c.b, 77, c.want)
	}
	for _, imm := range edges {
		wantMake(t, api.Set, 5, 0, imm, imm)
		wantMake(t, api.Set, 0, imm, imm, imm)
	}
}

// TestMakeEach (P4.4): all ops at the bounds and at drawn numbers, held against numbers without bounds.
func TestMakeEach(t *testing.T) {
	d := drawn.Die(41)
	l := edges
	for range 30 {
		l = append(l, int(d.Bits())>>d.Below(64))
	}
	for op := api.Set; op <= api.Eq; op++ {
		for _, a := range l {
			for _, b := range l {
				if op != api.Div || b != 0 {
					wantMake(t, op, a, b, a-b, made(op, a, b, a-b))
				}
			}
		}
	}
}

// TestMakeRefuses (P4.4): no op from Set to Eq, and a Div by 0.
func TestMakeRefuses(t *testing.T) {
	refused := func(op, a, b int, want api.Errno) {
		t.Helper()
		if v, e := step.Make(op, a, b, 5); v != 0 || e != want {
			t.Errorf("Make(%d, %d, %d, 5): %d %v, want 0 %v", op, a, b, v, e, want)
		}
	}
	for _, op := range []int{math.MinInt, -1, 0, api.Load, api.Store, api.Jump, api.If, api.Call, api.Host, api.Ret, api.Ret + 1, 1<<32 + api.Div, math.MaxInt} {
		refused(op, 3, 2, api.ErrKind)
		refused(op, 3, 0, api.ErrKind)
	}
	for _, a := range edges {
		refused(api.Div, a, 0, api.ErrNone)
	}
}
