package place_test

import (
	"fmt"
	"slices"
	"strings"
	"testing"

	"tierline/api"
	"tierline/place"
	"tierline/told"
)

// TestNoneClash (P10.2): where no value clashes with any, all have the place 0, whatever their registers and numbers are.
func TestNoneClash(t *testing.T) {
	for _, c := range []struct {
		text   string
		values int
	}{
		{"func 0 1\njump 0\n", 0},
		{"func 1 1\nret r0\n", 1},
		{"func 2 2\nret r1\n", 2},
		{"func 0 12\nset r11 5\nret r11\n", 1},
		{"func 1 1\nhost r0 r0\nadd r0 r0 r0\nif r0 0\nret r0\n", 4},
		{told.Diamond, 4},
		{"func 1 12\n" + strings.Repeat("set r11 5\n", api.MaxCode-1) + "ret r11\n", api.MaxCode},
	} {
		if l, e := place.Assign(told.Text(t, c.text), 0); e != api.OK || !slices.Equal(l, make([]int, c.values)) {
			t.Errorf("Assign(%q): %v %v, want %d noughts", c.text, l, e, c.values)
		}
	}
}

// TestAllClash (P10.2): where so many values clash each with all others, they have the places from 0 on, each once.
func TestAllClash(t *testing.T) {
	for n := 2; n <= api.MaxRegs; n++ {
		text, behind := fmt.Sprintf("func 2 %d\n", n), ""
		for r := 2; r < n; r++ {
			text += fmt.Sprintf("set r%d 0\n", r)
			behind = fmt.Sprintf("store r%d r0\n", r) + behind
		}
		p := told.Text(t, text+behind+"store r0 r1\nret r0\n")
		clashes, places := wantTold(t, p, 0)
		slices.Sort(places)
		for i, one := range places {
			if len(places) != n || one != i || most(clashes) != n-1 {
				t.Fatalf("%d registers: %v have the places %v", n, clashes, places)
			}
		}
	}
}

// TestMost (P10.2): two places are enough where no value clashes with two others, though many clash.
func TestMost(t *testing.T) {
	text := "func 2 12\nstore r0 r1\n"
	for r := 2; r < api.MaxRegs; r += 2 {
		text += fmt.Sprintf("set r%d 1\nset r%d 2\nstore r%d r%d\n", r, r+1, r, r+1)
	}
	p := told.Text(t, text+"jump 16\n")
	clashes, places := wantTold(t, p, 0)
	if most(clashes) != 1 || slices.Max(places) != 1 || len(places) != api.MaxRegs {
		t.Errorf("%v have the places %v", clashes, places)
	}
}
