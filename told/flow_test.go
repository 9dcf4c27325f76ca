package told

import (
	"fmt"
	"slices"
	"testing"

	"tierline/api"
)

// TestBegins: blocks begin at the place 0, and behind what ends one, if that is reached.
func TestBegins(t *testing.T) {
	for _, c := range []struct {
		text string
		want []bool
	}{
		{Counted, []bool{true, false, true, true, true, false, false, false}},
		{Diamond, []bool{true, true, false, true, true, false}},
		{Still, []bool{true, false, false, false, false}},
	} {
		if got := Begins(Text(t, c.text).Funcs[0]); !slices.Equal(got, c.want) {
			t.Errorf("Begins(%q): %v, want %v", c.text, got, c.want)
		}
	}
}

// TestLiveOf: what is read, ahead of being set; and of places that are not reached.
func TestLiveOf(t *testing.T) {
	for _, c := range []struct {
		text string
		want []int
	}{
		{Counted, []int{1, 3, 7, 2, 7, 7, 7}},
		{Diamond, []int{1, 0, 2, 0, 2}},
		{Still, []int{3, 3, 1, -1}},
	} {
		p := Text(t, c.text)
		if got := LiveOf(p, p.Funcs[0]); !slices.Equal(got, c.want) {
			t.Errorf("LiveOf(%q): %v, want %v", c.text, got, c.want)
		}
	}
}

// TestTidied: from one frame on, what is not live is 0, and everything, where the place is not reached.
func TestTidied(t *testing.T) {
	p := Text(t, "func 1 3\nset r1 0\ncall r2 1 r0 r1\nret r2\n"+Still)
	regs := [api.MaxRegs]int{5, 6, 7, 11: 8}
	s := api.State{Frames: []api.Frame{{Pc: 1, Regs: regs}, {Fn: 1, Pc: 2, Regs: regs}}}
	for from, want := range []string{"[5 6 0 0]", "[5 6 7 8]", "[5 6 7 8]"} {
		got := Tidied(p, s, from).Frames[0].Regs
		if shown := fmt.Sprint([]int{got[0], got[1], got[2], got[11]}); shown != want {
			t.Errorf("the first frame, from %d on: %s, want %s", from, shown, want)
		}
	}
	for pc, want := range []string{"[5 6 0 0]", "[5 6 0 0]", "[5 0 0 0]", "[0 0 0 0]"} {
		s.Frames[1].Pc = pc
		got := Tidied(p, s, 1).Frames[1].Regs
		if shown := fmt.Sprint([]int{got[0], got[1], got[2], got[11]}); shown != want {
			t.Errorf("the last frame at %d: %s, want %s", pc, shown, want)
		}
	}
	if s.Frames[0].Regs != regs || s.Frames[1].Regs != regs {
		t.Errorf("%v was changed", s)
	}
}
