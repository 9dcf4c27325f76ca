package told

import (
	"fmt"
	"testing"

	"tierline/api"
	"tierline/drawn"
)

// TestApart: lists that share an element, one of them in its spare room, are told from those that do not.
func TestApart(t *testing.T) {
	self := func(x *int) *int { return x }
	l := make([]int, 6)
	for _, c := range []struct {
		lists [][]int
		want  bool
	}{
		{nil, true},
		{[][]int{l}, true},
		{[][]int{nil, l, {}, {1, 2}}, true},
		{[][]int{l[:2:3], l[3:4:5], l[5:]}, true},
		{[][]int{l, l}, false},
		{[][]int{l[:2:4], l[3:]}, false},
		{[][]int{l[5:], {1}, l[:0]}, false},
	} {
		if got := Apart(c.lists, self); got != c.want {
			t.Errorf("Apart(%v): %v, want %v", c.lists, got, c.want)
		}
	}
}

// TestBegin: a run that begins is told from those that are refused.
func TestBegin(t *testing.T) {
	for i, c := range []struct {
		args []int
		fuel int
		want counter
	}{{[]int{7}, 5, 0}, {nil, 5, 1}, {[]int{7}, -1, 1}} {
		var found counter
		s := Begin(&found, Text(t, Counted), c.args, nil, c.fuel)
		if found != c.want || found == 0 && (s.Fuel != c.fuel || s.Frames[0].Regs[0] != 7) {
			t.Errorf("run %d: %v, %d faults are found, want %d", i, s, found, c.want)
		}
	}
}

// counter of faults that are found.
type counter int

func (c *counter) Helper() {}

func (c *counter) Fatalf(string, ...any) { *c++ }

// TestGiven: a call that leaves alone what it is handed is told from those that change it, write into its spare room, or answer with its memory.
func TestGiven(t *testing.T) {
	for i, c := range []struct {
		call func(p api.Program) any
		want counter
	}{
		{func(p api.Program) any { return len(p.Funcs[0].Code) }, 0},
		{func(p api.Program) any { return append([]api.Instr{}, p.Funcs[0].Code...) }, 0},
		{func(p api.Program) any { p.Funcs[0].Code[0].Imm++; return nil }, 1},
		{func(p api.Program) any { p.Funcs[0].Regs--; return nil }, 1},
		{func(p api.Program) any { return len(append(p.Funcs[0].Code, api.Instr{})) }, 1},
		{func(p api.Program) any { return len(append(p.Funcs, api.Func{})) }, 1},
		{func(p api.Program) any { return p.Funcs[0].Code[1:] }, 1},
		{func(p api.Program) any { return p.Funcs }, 1},
	} {
		var found counter
		d := drawn.Die(1)
		Given(&found, drawn.Tangled(&d), func(p api.Program) func() string {
			answer := c.call(p)
			return func() string { return fmt.Sprint(answer) }
		})
		if found != c.want {
			t.Errorf("call %d: %d faults are found, want %d", i, found, c.want)
		}
	}
}
