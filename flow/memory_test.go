package flow_test

import (
	"fmt"
	"testing"

	"tierline/api"
	"tierline/drawn"
	"tierline/flow"
	"tierline/told"
)

// TestGiven: what is handed in stays as it is, its spare room too, and shares nothing with what comes out.
func TestGiven(t *testing.T) {
	d := drawn.Die(76)
	for range 100 {
		told.Given(t, drawn.Tangled(&d), func(p api.Program) func() string {
			blocks, _ := flow.Blocks(p, 0)
			above, _ := flow.Above(p, 0)
			live, _ := flow.Live(p, 0)
			loops, _ := flow.Loops(p, 0)
			return func() string { return fmt.Sprint(blocks, above, live, loops) }
		})
	}
}

// TestApart: no two lists of an answer share memory, and none is one of another answer.
func TestApart(t *testing.T) {
	for _, s := range []string{counted, nested, crossed, ladder(func(int) int { return 0 }), ladder(func(pc int) int { return pc })} {
		p := told.Text(t, s)
		want := answers(p, 0)
		var lists [][]int
		for range 2 {
			blocks, _ := flow.Blocks(p, 0)
			for _, b := range blocks {
				lists = append(lists, b.Next, b.Prev)
			}
			above, _ := flow.Above(p, 0)
			live, _ := flow.Live(p, 0)
			loops, _ := flow.Loops(p, 0)
			lists = append(append(lists, above, live), loops...)
		}
		if !told.Apart(lists, func(x *int) *int { return x }) {
			t.Errorf("lists of %q share memory", s)
		}
		if again := answers(p, 0); again != want {
			t.Errorf("asked again of %q: %s, want %s", s, again, want)
		}
	}
}

// TestSame: asked again, the answers are the same, though a map has no order.
func TestSame(t *testing.T) {
	p := told.Text(t, ladder(func(pc int) int { return pc / 2 }))
	want := answers(p, 0)
	for range 50 {
		if got := answers(p, 0); got != want {
			t.Fatalf("asked again: %s, want %s", got, want)
		}
	}
}
