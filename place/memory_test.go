package place_test

import (
	"fmt"
	"testing"

	"tierline/api"
	"tierline/drawn"
	"tierline/place"
	"tierline/told"
)

// answers of both calls about a program's first function.
func answers(p api.Program) string {
	clashes, e := place.Clash(p, 0)
	places, f := place.Assign(p, 0)
	return fmt.Sprint(clashes, places, int(e), int(f))
}

// TestGiven: what is handed in stays as it is, its spare room too, and shares nothing with what comes out.
func TestGiven(t *testing.T) {
	d := drawn.Die(104)
	for i := range 100 {
		told.Given(t, drawn.Any(&d, i), func(p api.Program) func() string {
			clashes, _ := place.Clash(p, 0)
			places, _ := place.Assign(p, 0)
			return func() string { return fmt.Sprint(clashes, places) }
		})
	}
}

// TestApart: no two lists of an answer share memory, and none is one of another answer.
func TestApart(t *testing.T) {
	crossing := told.Woven(func(i, ifs int) int { return min(i+[]int{2, 1, -1}[i%3], ifs) })
	for _, text := range []string{told.Counted, told.Diamond, told.Nested, told.Still, crossing} {
		p := told.Text(t, text)
		want := answers(p)
		var lists [][]int
		for range 2 {
			clashes, _ := place.Clash(p, 0)
			places, _ := place.Assign(p, 0)
			lists = append(append(lists, places), clashes[:cap(clashes)]...)
		}
		if !told.Apart(lists, func(x *int) *int { return x }) {
			t.Errorf("lists of %q share memory", text)
		}
		if again := answers(p); again != want {
			t.Errorf("asked again of %q: %s, want %s", text, again, want)
		}
	}
}

// TestSame: asked again, the answers are the same, though a map has no order.
func TestSame(t *testing.T) {
	d := drawn.Die(105)
	for i := range 20 {
		p := drawn.Any(&d, i)
		want := answers(p)
		for range 30 {
			if got := answers(p); got != want {
				t.Fatalf("asked again of %v: %s, want %s", p, got, want)
			}
		}
	}
}
