package tiers_test

import (
	"fmt"
	"math"
	"testing"

	"tierline/api"
	"tierline/drawn"
	"tierline/proof"
	"tierline/step"
	"tierline/tiers"
	"tierline/told"
)

// calling: the function 0 calls the function 1, whose places 3 and 4 are not reached.
const calling = "func 1 4\nset r1 0\nset r3 5\ncall r2 1 r0 r1\nadd r2 r2 r3\nret r2\nfunc 2 12\nstore r1 r0\nload r0 r1\nret r0\njump 4\nret r0\n"

// full: a state of calling all of whose numbers are different.
func full() api.State {
	s := api.State{Frames: []api.Frame{{Pc: 2}, {Fn: 1, Pc: 1}}, Fuel: 77, Events: []int{5, 6}, Answers: []int{7, 8, 9}}
	for i := range s.Memory {
		s.Memory[i] = 100 + i
	}
	for r := range api.MaxRegs {
		s.Frames[0].Regs[r], s.Frames[1].Regs[r] = 200+r, 300+r
	}
	return s
}

// left: registers of a frame of full, of which only these are left.
func left(frame int, live ...int) [api.MaxRegs]int {
	var l [api.MaxRegs]int
	for _, r := range live {
		l[r] = 200 + 100*frame + r
	}
	return l
}

func wantTidy(t *testing.T, p api.Program, s, want api.State) {
	t.Helper()
	if got, e := tiers.Tidy(p, s); e != api.OK || !same(got, want) {
		t.Errorf("Tidy(%v):\n%v %v, want\n%v", s, got, e, want)
	}
}

// TestTidy (P14.1): in each frame only what is live ahead of its place is left, nothing where the place is not reached; all else is as it was.
func TestTidy(t *testing.T) {
	p := told.Text(t, calling)
	for pc, live := range [][]int{{0, 1}, {1}, {0}, {}, {}} {
		s, want := full(), full()
		s.Frames[1].Pc, want.Frames[1].Pc = pc, pc
		want.Frames[0].Regs, want.Frames[1].Regs = left(0, 0, 1, 3), left(1, live...)
		for _, status := range []int{api.Running, api.Empty, api.Zero, api.Outside, api.Deep} {
			s.Status, want.Status = status, status
			wantTidy(t, p, s, want)
		}
	}
	for pc, live := range [][]int{{0}, {0, 1}, {0, 1, 3}, {2, 3}, {2}} {
		s, want := full(), full()
		s.Frames, want.Frames = s.Frames[:1], want.Frames[:1]
		s.Frames[0].Pc, want.Frames[0].Pc, want.Frames[0].Regs = pc, pc, left(0, live...)
		wantTidy(t, p, s, want)
	}
}

// TestTidyDone (P14.1): one that is Done has no frames, and stays as it is.
func TestTidyDone(t *testing.T) {
	p := told.Text(t, calling)
	for _, value := range []int{0, 3, math.MinInt, math.MaxInt} {
		s := full()
		s.Status, s.Frames, s.Value = api.Done, nil, value
		wantTidy(t, p, s, s)
		s.Frames = []api.Frame{}
		wantTidy(t, p, s, s)
	}
}

// TestTidyUnreached (P14.1): frames ahead of the last one may be at a Call that is not reached.
func TestTidyUnreached(t *testing.T) {
	p := told.Text(t, "func 1 2\nret r0\ncall r1 0 r0 r0\nret r1\n")
	regs := [api.MaxRegs]int{1, 2, 3, 11: 12}
	s := api.State{Frames: []api.Frame{{Pc: 1, Regs: regs}, {Pc: 1, Regs: regs}, {Regs: regs}}}
	want := api.State{Frames: []api.Frame{{Pc: 1}, {Pc: 1}, {Regs: [api.MaxRegs]int{1}}}}
	wantTidy(t, p, s, want)
}

// TestTidyLimits (P14.1): as many frames, answers and fuel as may be, all registers live or none, numbers at the bounds.
func TestTidyLimits(t *testing.T) {
	p := told.Text(t, endless)
	s := api.State{Fuel: api.MaxFuel, Answers: make([]int, api.MaxAnswers), Events: make([]int, 3*api.MaxFuel)}
	want := s
	for n := range api.MaxDepth {
		regs := [api.MaxRegs]int{math.MinInt + n, -1, 11: math.MaxInt}
		s.Frames = append(s.Frames, api.Frame{Regs: regs})
		want.Frames = append(want.Frames, api.Frame{Regs: [api.MaxRegs]int{math.MinInt + n}})
		wantTidy(t, p, s, want)
	}
	woven := told.Text(t, told.Woven(func(i, ifs int) int { return 0 }))
	all := api.State{Frames: []api.Frame{{Pc: 10, Regs: [api.MaxRegs]int{1, 2, 3, 4, 5, 6, 7, 8, 9, 10, 11, 12}}}}
	wantTidy(t, woven, all, all)
	none := told.Text(t, "func 2 12\njump 0\n")
	all.Frames[0].Pc = 0
	wantTidy(t, none, all, api.State{Frames: []api.Frame{{}}})
}

// TestTidyRefuses (P14.1): states that may not be; programs that are not right ahead of these.
func TestTidyRefuses(t *testing.T) {
	p := told.Text(t, calling)
	one := []api.Frame{{Pc: 2}}
	refused := func(what string, p api.Program, s api.State, want api.Errno) {
		t.Helper()
		if got, e := tiers.Tidy(p, s); e != want || !same(got, api.State{}) {
			t.Errorf("Tidy, %s: %v %v, want %v", what, got, e, want)
		}
	}
	for what, s := range map[string]api.State{
		"nothing":             {},
		"no such status":      {Status: 6, Frames: one},
		"status below 0":      {Status: -1, Frames: one},
		"fuel below 0":        {Frames: one, Fuel: -1},
		"too much fuel":       {Frames: one, Fuel: api.MaxFuel + 1},
		"too many answers":    {Frames: one, Answers: make([]int, api.MaxAnswers+1)},
		"too many frames":     {Frames: make([]api.Frame, api.MaxDepth+1)},
		"no such function":    {Frames: []api.Frame{{Fn: 2}}},
		"function below 0":    {Frames: []api.Frame{{Fn: math.MinInt}}},
		"no such place":       {Frames: []api.Frame{{Pc: 5}}},
		"place below 0":       {Frames: []api.Frame{{Pc: -1}}},
		"at no call":          {Frames: []api.Frame{{Pc: 0}, {Fn: 1}}},
		"call of another one": {Frames: []api.Frame{{Pc: 2}, {Fn: 0}}},
		"running, value":      {Frames: one, Value: 1},
		"done, a frame":       {Status: api.Done, Frames: one},
		"zero, no frame":      {Status: api.Zero},
		"empty, value":        {Status: api.Empty, Frames: one, Value: -1},
	} {
		refused(what, p, s, api.ErrState)
	}
	for _, p := range drawn.WrongAnywhere() {
		for _, s := range []api.State{{Frames: []api.Frame{{}}, Fuel: 5}, {}, {Status: api.Done}, {Status: 9}} {
			refused(fmt.Sprint(p, s), p, s, proof.Check(p))
		}
	}
}

// TestTidyTold (P14.1): drawn states that may be, be they those of a run or not, held against the chapter's words.
func TestTidyTold(t *testing.T) {
	d := drawn.Die(141)
	changed := 0
	for i := range 3000 {
		p := drawn.Any(&d, i)
		fn := d.Below(len(p.Funcs))
		s := api.State{Status: api.Running, Frames: []api.Frame{{Fn: fn, Pc: d.Below(len(p.Funcs[fn].Code))}}, Fuel: d.Below(60)}
		for r := range api.MaxRegs {
			s.Frames[0].Regs[r] = int(d.Bits()) >> d.Below(64)
		}
		want := told.Tidied(p, s, 0)
		wantTidy(t, p, s, want)
		wantTidy(t, p, want, want)
		if !same(s, want) {
			changed++
		}
	}
	if changed < 2500 {
		t.Errorf("only %d states are changed", changed)
	}
}

// TestTidyRuns (P14.1): each state of drawn runs, with all its frames, and a run goes on from what is left as it would have gone on.
func TestTidyRuns(t *testing.T) {
	d := drawn.Die(142)
	deep := 0
	for i := range 300 {
		p := drawn.Any(&d, i)
		fuel := d.Below(60)
		s := told.Begin(t, p, drawn.Args(&d, p), []int{3, 0, -7}, fuel)
		end, _ := step.Walk(p, s, fuel+1)
		end = told.Tidied(p, end, 0)
		for range fuel + 1 {
			tidied, e := tiers.Tidy(p, s)
			if e != api.OK || !same(tidied, told.Tidied(p, s, 0)) {
				t.Fatalf("Tidy(%v, %v): %v %v", p, s, tidied, e)
			}
			if len(s.Frames) > 2 {
				deep++
			}
			went, _ := step.Walk(p, tidied, fuel+1)
			wantTidy(t, p, went, end)
			s, _ = step.Next(p, s)
		}
	}
	if deep < 200 {
		t.Errorf("only %d states have more than two frames", deep)
	}
}
