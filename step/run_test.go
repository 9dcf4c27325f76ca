package step_test

import (
	"fmt"
	"math"
	"testing"

	"tierline/api"
	"tierline/code"
	"tierline/drawn"
	"tierline/step"
	"tierline/told"
)

// TestRun (P4.6): runs to their ends, one of each status.
func TestRun(t *testing.T) {
	for _, c := range []struct {
		text          string
		args, answers []int
		fuel          int
		want          api.State
	}{
		{counted, []int{10}, nil, 100, api.State{Status: api.Done, Value: 55, Fuel: 56}},
		{counted, []int{10}, nil, 44, api.State{Status: api.Done, Value: 55}},
		{counted, []int{10}, nil, 43, api.State{Status: api.Empty, Frames: []api.Frame{{Pc: 3, Regs: regs(0, 55, -1)}}}},
		{counted, []int{0}, nil, 4, api.State{Status: api.Done}},
		{counted, []int{3}, nil, 0, api.State{Status: api.Empty, Frames: []api.Frame{{Regs: regs(3)}}}},
		{counted, []int{-1}, nil, api.MaxFuel, api.State{Status: api.Empty, Frames: []api.Frame{{Pc: 5, Regs: regs(-2500, -2500*2501/2, -1)}}}},
		{"func 2 2\ndiv r0 r0 r1\nret r0\n", []int{7, 0}, []int{1}, 9, api.State{Status: api.Zero, Frames: []api.Frame{{Regs: regs(7)}}, Fuel: 9, Answers: []int{1}}},
		{"func 1 1\nload r0 r0\njump 0\n", []int{16}, nil, 9, api.State{Status: api.Outside, Frames: []api.Frame{{Regs: regs(16)}}, Fuel: 9}},
		{"func 0 1\njump 0\n", nil, nil, 9, api.State{Status: api.Empty, Frames: []api.Frame{{}}}},
		{"func 1 2\nhost r0 r0\nset r1 2\nsub r1 r0 r1\nif r1 0\nret r0\n", []int{7}, []int{3, 4, 2, 9}, 100,
			api.State{Status: api.Done, Value: 2, Fuel: 87, Events: []int{7, 3, 4}, Answers: []int{9}}},
		// Factorials by calls of itself, as deep as may be.
		{"func 1 3\nif r0 3\nset r0 1\nret r0\nset r1 1\nsub r1 r0 r1\ncall r1 0 r1 r1\nmul r0 r0 r1\nret r0\n", []int{7}, nil, 99,
			api.State{Status: api.Done, Value: 5040, Fuel: 54}},
	} {
		s, e := step.Run(told.Text(t, c.text), c.args, c.answers, c.fuel)
		wantState(t, fmt.Sprintf("Run(%q, %v, %v, %d)", c.text, c.args, c.answers, c.fuel), s, e, c.want)
	}
	s, e := step.Run(told.Text(t, endless), []int{6}, nil, 99)
	want := api.State{Status: api.Deep, Fuel: 91}
	for range api.MaxDepth {
		want.Frames = append(want.Frames, api.Frame{Regs: regs(6)})
	}
	wantState(t, "Run(endless)", s, e, want)
}

// TestWalk (P4.5): so many steps, or as many as there are.
func TestWalk(t *testing.T) {
	p := told.Text(t, counted)
	s := told.Begin(t, p, []int{10}, nil, 100)
	want := s
	for n := range 50 {
		w, e := step.Walk(p, s, n)
		wantState(t, fmt.Sprint("Walk ", n), w, e, want)
		if (n >= 44) != (w.Status == api.Done) || w.Fuel != 100-min(n, 44) {
			t.Errorf("Walk %d: status %d, fuel %d", n, w.Status, w.Fuel)
		}
		want = next(t, p, want)
	}
	for _, n := range []int{api.MaxFuel, 1 << 32, math.MaxInt} {
		w, e := step.Walk(p, s, n)
		wantState(t, fmt.Sprint("Walk ", n), w, e, want)
	}
}

// TestWalkRefuses (P4.5): a number of steps below 0, whatever the status is.
func TestWalkRefuses(t *testing.T) {
	p := told.Text(t, counted)
	for _, s := range []api.State{told.Begin(t, p, []int{10}, nil, 100), {Status: api.Done, Value: 4}, running(0, 0, 1)} {
		for _, n := range []int{-1, -2, -1 << 32, math.MinInt} {
			w, e := step.Walk(p, s, n)
			wantRefused(t, fmt.Sprint("Walk ", n), w, e, api.ErrRange)
		}
	}
}

// wantTold: a run, and a piece of it, are what the chapter's words make of them.
func wantTold(t *testing.T, p api.Program, args, answers []int, fuel, n int) api.State {
	t.Helper()
	what := fmt.Sprint(p, args, answers, fuel, n)
	s := told.Begin(t, p, args, answers, fuel)
	w, e := step.Walk(p, s, n)
	wantState(t, "Walk "+what, w, e, toldState(p, args, answers, fuel, n))
	r, e := step.Run(p, args, answers, fuel)
	wantState(t, "Run "+what, r, e, toldState(p, args, answers, fuel, math.MaxInt))
	w, e = step.Walk(p, w, api.MaxFuel+1)
	wantState(t, "Walk on "+what, w, e, r)
	return r
}

// TestTold (P4.1, P4.3, P4.5, P4.6): drawn runs, held against the chapter's words; programs and lists stay as they were.
func TestTold(t *testing.T) {
	d := drawn.Die(44)
	var seen [api.Deep + 1]int
	for range 3000 {
		p := drawn.Right(&d)
		args, answers := numbers(&d, p.Funcs[0].Params), numbers(&d, d.Below(5))
		before := fmt.Sprint(p, args, answers)
		s := wantTold(t, p, args, answers, d.Below(400), d.Below(60))
		if fmt.Sprint(p, args, answers) != before {
			t.Fatalf("%s became %v %v %v", before, p, args, answers)
		}
		seen[s.Status]++
	}
	for _, status := range []int{api.Done, api.Empty, api.Zero, api.Outside, api.Deep} {
		if seen[status] < 50 {
			t.Errorf("status %d comes only %d times", status, seen[status])
		}
	}
}

// TestSteps (P4.3, P4.5): from a state that may be, Walk does what as many Nexts do.
func TestSteps(t *testing.T) {
	d := drawn.Die(45)
	for range 500 {
		p := drawn.Right(&d)
		fn := d.Below(len(p.Funcs))
		s := api.State{Frames: []api.Frame{{Fn: fn, Pc: d.Below(len(p.Funcs[fn].Code)), Regs: regs(numbers(&d, api.MaxRegs)...)}}, Fuel: d.Below(40)}
		s.Events, s.Answers = numbers(&d, d.Below(3)), numbers(&d, d.Below(3))
		copy(s.Memory[:], numbers(&d, api.Memory))
		want := s
		for n := range 30 {
			w, e := step.Walk(p, s, n)
			wantState(t, fmt.Sprint("Walk ", n, p, s), w, e, want)
			want = next(t, p, want)
		}
	}
}

// TestNewMemory: answers share nothing with what is handed in, nor with each other, and what is handed in keeps its spare room as it was.
func TestNewMemory(t *testing.T) {
	p := told.Text(t, "func 2 2\nhost r0 r0\ncall r0 0 r0 r1\nret r0\n")
	list := []int{1, 2, 3, 4, 5}
	frames := []api.Frame{{Pc: 0}, {Fn: 7, Pc: 7}}
	s := api.State{Frames: frames[:1], Fuel: 9, Events: list[:1], Answers: list[1:3]}
	ended := s
	ended.Status = api.Zero
	before := fmt.Sprint(p, list, frames)
	answers := func() []api.State {
		b, _ := step.Begin(p, list[:2], list[:3], 9)
		n, _ := step.Next(p, s)
		w, _ := step.Walk(p, s, 3)
		z, _ := step.Walk(p, s, 0)
		e, _ := step.Next(p, ended)
		r, _ := step.Run(p, list[:2], list[:3], 9)
		return []api.State{b, n, w, z, e, r}
	}
	l, m := answers(), answers()
	want := fmt.Sprint(m)
	for _, s := range l {
		for _, l := range [][]int{s.Events, s.Answers} {
			clear(l[:cap(l)])
		}
		clear(s.Frames[:cap(s.Frames)])
	}
	if got := fmt.Sprint(p, list, frames); got != before {
		t.Errorf("%s is %s now", before, got)
	}
	if got := fmt.Sprint(m); got != want {
		t.Errorf("answers changed with others: %s, want %s", got, want)
	}
}

// TestListsApart: no two lists of one answer share memory, though those that are handed in do.
func TestListsApart(t *testing.T) {
	p := told.Text(t, "func 1 1\nhost r0 r0\njump 0\n")
	both := []int{1, 2, 3, 4}
	s := running(0, 9, 5)
	s.Events, s.Answers = both, both
	for n := range 3 {
		w, _ := step.Walk(p, s, n)
		want := fmt.Sprint(w.Answers)
		clear(w.Events[:cap(w.Events)])
		if got := fmt.Sprint(w.Answers); got != want {
			t.Errorf("behind %d steps the answers changed with the events: %s, want %s", n, got, want)
		}
	}
}

// FuzzStep (P4.1 to P4.6): whatever right program it is, runs are what the chapter's words make of them.
func FuzzStep(f *testing.F) {
	d := drawn.Die(46)
	for range 20 {
		l, _ := code.Encode(drawn.Right(&d))
		f.Add(l, d.Below(20), d.Below(20), d.Below(200), d.Below(50))
	}
	f.Fuzz(func(t *testing.T, l []byte, a, b, fuel, n int) {
		p, e := code.Decode(l)
		if e != api.OK || n < 0 {
			return
		}
		args, answers := []int{a, b}, []int{b, a, n}
		if params := p.Funcs[0].Params; params < 2 {
			args = args[:params]
		}
		if _, e := step.Begin(p, args, answers, fuel); e == api.OK {
			wantTold(t, p, args, answers, fuel, n)
		}
	})
}
