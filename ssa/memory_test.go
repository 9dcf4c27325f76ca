package ssa_test

import (
	"fmt"
	"testing"

	"tierline/api"
	"tierline/drawn"
	"tierline/ssa"
	"tierline/told"
)

// TestGiven: what is handed in stays as it is, its spare room too, and shares nothing with what comes out.
func TestGiven(t *testing.T) {
	d := drawn.Die(88)
	for i := range 100 {
		told.Given(t, drawn.Any(&d, i), func(p api.Program) func() string {
			s, _ := ssa.Build(p, 0)
			at, _ := ssa.At(p, 0, 0)
			return func() string { return fmt.Sprint(s, at) }
		})
	}
}

// TestApart: no two lists of an answer share memory, and none is one of another answer.
func TestApart(t *testing.T) {
	crossing := told.Woven(func(i, ifs int) int { return min(i+[]int{2, 1, -1}[i%3], ifs) })
	for _, text := range []string{counted, diamond, nested, crossed, crossing} {
		p := told.Text(t, text)
		want, _ := ssa.Build(p, 0)
		var parts [][]api.Part
		var phis [][]api.Phi
		var ins [][]api.Ins
		var numbers [][]int
		for range 2 {
			s, _ := ssa.Build(p, 0)
			at, _ := ssa.At(p, 0, 0)
			parts, numbers = append(parts, s.Parts), append(numbers, at)
			for _, part := range s.Parts {
				phis, ins = append(phis, part.Phis), append(ins, part.Ins)
				for _, phi := range part.Phis[:cap(part.Phis)] {
					numbers = append(numbers, phi.Args)
				}
			}
		}
		if !told.Apart(numbers, func(x *int) *int { return x }) || !told.Apart(ins, func(x *api.Ins) *int { return &x.Pc }) ||
			!told.Apart(phis, func(x *api.Phi) *int { return &x.Reg }) || !told.Apart(parts, func(x *api.Part) *int { return &x.Block }) {
			t.Errorf("lists of %q share memory", text)
		}
		if again, _ := ssa.Build(p, 0); fmt.Sprint(again) != fmt.Sprint(want) {
			t.Errorf("asked again of %q: %v, want %v", text, again, want)
		}
	}
}

// TestSame: asked again, the answers are the same, though a map has no order.
func TestSame(t *testing.T) {
	d := drawn.Die(89)
	for range 10 {
		p := drawn.Tangled(&d)
		want, _ := ssa.Build(p, 0)
		for range 30 {
			if got, _ := ssa.Build(p, 0); fmt.Sprint(got) != fmt.Sprint(want) {
				t.Fatalf("asked again of %v: %v, want %v", p, got, want)
			}
		}
	}
}
