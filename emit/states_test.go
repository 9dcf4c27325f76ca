package emit_test

import (
	"fmt"
	"math"
	"testing"

	"tierline/api"
	"tierline/drawn"
	"tierline/emit"
	"tierline/proof"
	"tierline/told"
)

// calling: the function 0 calls the function 1, whose places 3 and 4 are not reached.
const calling = "func 1 3\nset r1 0\ncall r2 1 r0 r1\nret r2\nfunc 2 12\nstore r1 r0\nload r0 r1\nret r0\njump 4\nret r0\n"

// full: a state of calling all of whose numbers are different.
func full() api.State {
	s := api.State{Frames: []api.Frame{{Pc: 1}, {Fn: 1, Pc: 1}}, Fuel: 77, Events: []int{5, 6}, Answers: []int{7, 8, 9}}
	for i := range s.Memory {
		s.Memory[i] = 100 + i
	}
	for r := range api.MaxRegs {
		s.Frames[0].Regs[r], s.Frames[1].Regs[r] = 200+r, 300+r
	}
	return s
}

// TestEnter (P13.1, P13.2): each number of the Data, and nothing else of the machine.
func TestEnter(t *testing.T) {
	c, e := emit.Enter(told.Text(t, calling), full())
	var want api.Cpu
	for i := range 16 {
		want.Data[i] = 100 + i
	}
	for r := range 12 {
		want.Data[16+r] = 300 + r
	}
	want.Data[28], want.Data[29] = 77, 1
	if e != api.OK || c != want {
		t.Errorf("Enter:\n%v %v, want\n%v", c, e, want)
	}
}

// TestEnterLimits (P13.2): numbers at the bounds, no fuel and all of it, any place of the function, also one that is not reached, and as many frames as may be.
func TestEnterLimits(t *testing.T) {
	p := told.Text(t, calling)
	for _, n := range edges {
		for pc := range 5 {
			s := full()
			top(s).Pc, top(s).Regs[11], s.Memory[15], s.Frames[0].Regs[0] = pc, n, n, n
			for _, s.Fuel = range []int{0, 1, api.MaxFuel} {
				c, e := emit.Enter(p, s)
				if e != api.OK || c.Data[27] != n || c.Data[15] != n || c.Data[28] != s.Fuel || c.Data[29] != pc || c.Data[16] != 300 {
					t.Errorf("Enter(%v): %v %v", s, c, e)
				}
			}
		}
	}
	deep := told.Text(t, "func 1 1\ncall r0 0 r0 r0\nret r0\n")
	var s api.State
	for n := range api.MaxDepth {
		s.Frames = append(s.Frames, api.Frame{Regs: [api.MaxRegs]int{n}})
		if c, e := emit.Enter(deep, s); e != api.OK || c.Data[16] != n {
			t.Errorf("Enter with %d frames: %v %v", n+1, c, e)
		}
	}
}

// wantStateRefused: Enter, Far and Leave refuse a state alike, whatever the machine has, and answer nothing.
func wantStateRefused(t *testing.T, what string, p api.Program, s api.State, want api.Errno) {
	t.Helper()
	if c, e := emit.Enter(p, s); e != want || c != (api.Cpu{}) {
		t.Errorf("Enter, %s: %v %v, want %v", what, c, e, want)
	}
	if f, n, e := emit.Far(p, s); e != want || n != 0 || !same(f, api.State{}) {
		t.Errorf("Far, %s: %v %d %v, want %v", what, f, n, e, want)
	}
	for _, place := range []int{0, -1, 99} {
		l, e := emit.Leave(p, s, api.Cpu{Data: [api.Data]int{28: place, 29: place}})
		if e != want || !same(l, api.State{}) {
			t.Errorf("Leave, %s: %v %v, want %v", what, l, e, want)
		}
	}
}

// TestRefusesStates (P13.2): states that may not be; then such that are not Running.
func TestRefusesStates(t *testing.T) {
	p := told.Text(t, calling)
	one := []api.Frame{{Pc: 1}}
	for what, s := range map[string]api.State{
		"nothing":          {},
		"no such status":   {Status: 6, Frames: one},
		"status below 0":   {Status: -1, Frames: one},
		"fuel below 0":     {Frames: one, Fuel: -1},
		"too much fuel":    {Frames: one, Fuel: api.MaxFuel + 1},
		"too many answers": {Frames: one, Answers: make([]int, api.MaxAnswers+1)},
		"too many frames":  {Frames: make([]api.Frame, api.MaxDepth+1)},
		"no such function": {Frames: []api.Frame{{Fn: 2}}},
		"function below 0": {Frames: []api.Frame{{Fn: math.MinInt}}},
		"no such place":    {Frames: []api.Frame{{Pc: 3}}},
		"place below 0":    {Frames: []api.Frame{{Pc: -1}}},
		"at no call":       {Frames: []api.Frame{{Pc: 0}, {Fn: 1}}},
		"value":            {Frames: one, Value: 1},
		// Ahead of not being Running.
		"done with frames":  {Status: api.Done, Frames: one},
		"zero without any":  {Status: api.Zero},
		"empty with value":  {Status: api.Empty, Frames: one, Value: 1},
		"deep, bad fuel":    {Status: api.Deep, Frames: one, Fuel: -1},
		"outside, no place": {Status: api.Outside, Frames: []api.Frame{{Pc: 3}}},
	} {
		wantStateRefused(t, what, p, s, api.ErrState)
	}
	wantStateRefused(t, "done", p, api.State{Status: api.Done, Value: 3, Fuel: 5}, api.ErrNone)
	for _, status := range []int{api.Empty, api.Zero, api.Outside, api.Deep} {
		wantStateRefused(t, fmt.Sprint("status ", status), p, api.State{Status: status, Frames: one, Fuel: 5}, api.ErrNone)
	}
}

// TestRefusesPrograms (P13.2, P13.5): programs that are not right are refused ahead of states and functions.
func TestRefusesPrograms(t *testing.T) {
	for _, p := range drawn.WrongAnywhere() {
		for _, s := range []api.State{{Frames: []api.Frame{{}}, Fuel: 5}, {}, {Status: api.Done}, {Status: 9}} {
			wantStateRefused(t, fmt.Sprint(p, s), p, s, proof.Check(p))
		}
	}
}

// left: what a machine has that leaves a state of calling at a place, with so much fuel; all other numbers of its Data are different.
func left(place, fuel int) api.Cpu {
	c := api.Cpu{Pc: 5, Halted: true}
	for i := range c.Data {
		c.Data[i] = 500 + i
	}
	c.Data[28], c.Data[29] = fuel, place
	return c
}

// TestLeave (P13.4): memory, fuel, place and live registers are what the Data say, the other registers 0; all else is as it was.
func TestLeave(t *testing.T) {
	p := told.Text(t, calling)
	for place, live := range [][]int{{0, 1}, {1}, {0}} {
		for _, fuel := range []int{0, 1, 76, 77} {
			want := full()
			for i := range want.Memory {
				want.Memory[i] = 500 + i
			}
			want.Fuel, *top(want) = fuel, api.Frame{Fn: 1, Pc: place}
			for _, r := range live {
				top(want).Regs[r] = 516 + r
			}
			s, e := emit.Leave(p, full(), left(place, fuel))
			if e != api.OK || !same(s, want) {
				t.Errorf("Leave at %d:\n%v %v, want\n%v", place, s, e, want)
			}
		}
	}
}

// TestLeaveMachine (P13.4): where the machine is, what its registers are, and whether it has stopped says nothing.
func TestLeaveMachine(t *testing.T) {
	p := told.Text(t, calling)
	want, _ := emit.Leave(p, full(), left(1, 5))
	c := left(1, 5)
	c.Pc, c.Halted, c.Regs = -7, false, [32]int{9, 9, 9, 31: 9}
	if s, e := emit.Leave(p, full(), c); e != api.OK || !same(s, want) {
		t.Errorf("Leave:\n%v %v, want\n%v", s, e, want)
	}
}

// TestLeaveRefuses (P13.4): places that are none of the last frame's function, or not reached, and fuel that was not there.
func TestLeaveRefuses(t *testing.T) {
	p := told.Text(t, calling)
	refused := func(s api.State, place, fuel int) {
		t.Helper()
		if l, e := emit.Leave(p, s, left(place, fuel)); e != api.ErrForm || !same(l, api.State{}) {
			t.Errorf("Leave(%v) at %d with %d: %v %v, want ErrForm", s, place, fuel, l, e)
		}
	}
	for _, place := range []int{math.MinInt, -1 << 32, -1, 3, 4, 5, 40, 1 << 32, math.MaxInt} {
		refused(full(), place, 5)
	}
	for _, fuel := range []int{math.MinInt, -1, 78, api.MaxFuel, 1 << 32, math.MaxInt} {
		refused(full(), 1, fuel)
	}
	// The function 0 has fewer places, and its fuel is gone.
	one := api.State{Frames: []api.Frame{{Pc: 1}}}
	refused(one, 3, 0)
	refused(one, 2, 1)
	if _, e := emit.Leave(p, one, left(2, 0)); e != api.OK {
		t.Errorf("Leave at the last place without fuel: %v, want OK", e)
	}
}
