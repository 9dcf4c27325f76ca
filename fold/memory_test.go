package fold_test

import (
	"fmt"
	"slices"
	"testing"

	"tierline/api"
	"tierline/drawn"
	"tierline/fold"
	"tierline/told"
)

// TestGiven: what is handed in stays as it is, its spare room too, and shares nothing with what comes out.
func TestGiven(t *testing.T) {
	d := drawn.Die(97)
	for i := range 100 {
		told.Given(t, settled(&d, i), func(p api.Program) func() string {
			facts, met, _ := fold.Facts(p, 0)
			return func() string { return fmt.Sprint(facts, met) }
		})
	}
}

// TestApart: no list of an answer is one of another answer, spare room neither.
func TestApart(t *testing.T) {
	for _, text := range []string{told.Counted, told.Diamond, told.Nested, told.Crossed, told.Still} {
		p := told.Text(t, text)
		want, wantMet, _ := fold.Facts(p, 0)
		one, oneMet, _ := fold.Facts(p, 0)
		other, otherMet, _ := fold.Facts(p, 0)
		if !told.Apart([][]api.Fact{one, other}, func(x *api.Fact) *int { return &x.Kind }) {
			t.Errorf("facts of %q share memory", text)
		}
		clear(oneMet[:cap(oneMet)])
		if !slices.Equal(otherMet, wantMet) {
			t.Errorf("blocks of %q share memory", text)
		}
		if again, met, _ := fold.Facts(p, 0); !slices.Equal(again, want) || !slices.Equal(met, wantMet) {
			t.Errorf("asked again of %q: %v %v, want %v %v", text, again, met, want, wantMet)
		}
	}
}

// TestSame: asked again, the answers are the same, though a map has no order.
func TestSame(t *testing.T) {
	d := drawn.Die(98)
	for i := range 20 {
		p := settled(&d, i)
		want, wantMet, _ := fold.Facts(p, 0)
		for range 30 {
			if facts, met, _ := fold.Facts(p, 0); !slices.Equal(facts, want) || !slices.Equal(met, wantMet) {
				t.Fatalf("asked again of %v: %v %v, want %v %v", p, facts, met, want, wantMet)
			}
		}
	}
}
