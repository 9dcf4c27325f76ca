package step_test

import (
	"fmt"
	"math"
	"slices"
	"testing"

	"tierline/api"
	"tierline/drawn"
	"tierline/proof"
	"tierline/step"
	"tierline/told"
)

// wantMayBe: Check, Next and Walk take the state.
func wantMayBe(t *testing.T, what string, p api.Program, s api.State) {
	t.Helper()
	if e := step.Check(p, s); e != api.OK {
		t.Errorf("Check, %s: %v, want OK", what, e)
	}
	if _, e := step.Next(p, s); e != api.OK {
		t.Errorf("Next, %s: %v, want OK", what, e)
	}
	w, e := step.Walk(p, s, 0)
	wantState(t, "Walk, "+what, w, e, s)
}

// wantNot: Check, Next and Walk refuse it alike, Walk also if there is no such number of steps.
func wantNot(t *testing.T, what string, p api.Program, s api.State, want api.Errno) {
	t.Helper()
	if e := step.Check(p, s); e != want {
		t.Errorf("Check, %s: %v, want %v", what, e, want)
	}
	w, e := step.Next(p, s)
	wantRefused(t, "Next, "+what, w, e, want)
	for _, n := range []int{math.MinInt, -1, 0, 1, 5, math.MaxInt} {
		w, e := step.Walk(p, s, n)
		wantRefused(t, fmt.Sprint("Walk ", n, ", ", what), w, e, want)
	}
}

// three functions: 0 calls 1 and 2, 1 calls 2, 2 calls none.
const three = "func 1 2\nset r1 0\ncall r0 1 r0 r1\ncall r1 2 r0 r0\nret r0\nfunc 1 1\ncall r0 2 r0 r0\nret r0\nfunc 1 1\nhost r0 r0\nret r0\nret r0\n"

// TestMayBe (P4.2): states that may be, at the limits, too.
func TestMayBe(t *testing.T) {
	p := told.Text(t, three)
	one := []api.Frame{{Pc: 1}}
	for what, s := range map[string]api.State{
		"running":           {Frames: one, Fuel: 5},
		"empty":             {Status: api.Empty, Frames: one},
		"empty with fuel":   {Status: api.Empty, Frames: one, Fuel: 5},
		"zero":              {Status: api.Zero, Frames: one, Fuel: 5},
		"outside":           {Status: api.Outside, Frames: one, Fuel: 5},
		"deep, not so deep": {Status: api.Deep, Frames: one, Fuel: 5},
		"done":              {Status: api.Done, Fuel: 5},
		"done, with value":  {Status: api.Done, Value: math.MinInt},
		"done, not nil":     {Status: api.Done, Value: 1, Frames: []api.Frame{}},
		"no fuel":           {Frames: one},
		"all fuel":          {Frames: one, Fuel: api.MaxFuel},
		"all answers":       {Frames: one, Answers: make([]int, api.MaxAnswers)},
		"many events":       {Frames: one, Events: make([]int, 3*api.MaxFuel)},
		"memory":            {Frames: one, Memory: [api.Memory]int{5, math.MinInt}},
		"registers":         {Frames: []api.Frame{{Pc: 3, Regs: regs(slices.Repeat([]int{-1}, api.MaxRegs)...)}}},
		"another function":  {Frames: []api.Frame{{Fn: 1}}},
		"the last place":    {Frames: []api.Frame{{Fn: 2, Pc: 2}}, Fuel: 1},
		"two frames":        {Frames: []api.Frame{{Pc: 1}, {Fn: 1, Pc: 1}}},
		"another call":      {Frames: []api.Frame{{Pc: 2}, {Fn: 2, Pc: 1}}},
		"three frames":      {Frames: []api.Frame{{Pc: 1}, {Fn: 1}, {Fn: 2}}},
		"last at a call":    {Frames: []api.Frame{{Pc: 1}, {Fn: 1, Pc: 0}}},
	} {
		wantMayBe(t, what, p, s)
	}
	wantMayBe(t, "all frames", told.Text(t, endless), deep(api.MaxDepth))
}

// TestMayNotBe (P4.2): of each kind of state that may not be, the nearest ones.
func TestMayNotBe(t *testing.T) {
	p := told.Text(t, three)
	one := []api.Frame{{Pc: 1}}
	for what, s := range map[string]api.State{
		"status below 0":        {Status: -1, Frames: one, Fuel: 5},
		"no such status":        {Status: 6, Frames: one, Fuel: 5},
		"status far off":        {Status: math.MinInt, Frames: one, Fuel: 5},
		"fuel below 0":          {Frames: one, Fuel: -1},
		"too much fuel":         {Frames: one, Fuel: api.MaxFuel + 1},
		"done, too much fuel":   {Status: api.Done, Fuel: api.MaxFuel + 1},
		"too many answers":      {Frames: one, Answers: make([]int, api.MaxAnswers+1)},
		"nothing":               {},
		"running, no frames":    {Fuel: 5},
		"empty, no frames":      {Status: api.Empty},
		"zero, no frames":       {Status: api.Zero},
		"outside, no frames":    {Status: api.Outside},
		"deep, no frames":       {Status: api.Deep, Frames: []api.Frame{}},
		"done, a frame":         {Status: api.Done, Frames: one},
		"running, value":        {Frames: one, Value: 1},
		"empty, value":          {Status: api.Empty, Frames: one, Value: -1},
		"zero, value":           {Status: api.Zero, Frames: one, Value: math.MinInt},
		"outside, value":        {Status: api.Outside, Frames: one, Value: 1},
		"deep, value":           {Status: api.Deep, Frames: one, Value: 1 << 32},
		"function below 0":      {Frames: []api.Frame{{Fn: -1}}},
		"no such function":      {Frames: []api.Frame{{Fn: 3}}},
		"function far off":      {Frames: []api.Frame{{Fn: math.MaxInt}}},
		"place below 0":         {Frames: []api.Frame{{Pc: -1}}},
		"no such place":         {Frames: []api.Frame{{Pc: 4}}},
		"none of this function": {Frames: []api.Frame{{Fn: 1, Pc: 2}}},
		"place far off":         {Frames: []api.Frame{{Pc: math.MinInt}}},
		"no call":               {Frames: []api.Frame{{Pc: 0}, {Fn: 1}}},
		"no call, of its Imm":   {Frames: []api.Frame{{Pc: 0}, {Fn: 0}}},
		"call of another one":   {Frames: []api.Frame{{Pc: 1}, {Fn: 2}}},
		"of the one before":     {Frames: []api.Frame{{Pc: 2}, {Fn: 1}}},
		"place above a frame":   {Frames: []api.Frame{{Pc: 1}, {Fn: 1, Pc: 2}}},
		"function in the midst": {Frames: []api.Frame{{Pc: 1}, {Fn: 3}, {Fn: 2}}},
		"place in the midst":    {Frames: []api.Frame{{Pc: 1}, {Fn: 1, Pc: -1}, {Fn: 2}}},
		"no call in the midst":  {Frames: []api.Frame{{Pc: 1}, {Fn: 1, Pc: 1}, {Fn: 2}}},
		"frames turned round":   {Frames: []api.Frame{{Fn: 2}, {Fn: 1}, {Pc: 1}}},
		"zero with a bad frame": {Status: api.Zero, Frames: []api.Frame{{Fn: 3}}},
	} {
		wantNot(t, what, p, s, api.ErrState)
	}
	wantNot(t, "too many frames", told.Text(t, endless), deep(api.MaxDepth+1), api.ErrState)
	wantNot(t, "far too many frames", told.Text(t, endless), deep(500), api.ErrState)
}

// TestWrongPrograms (P4.2): programs that are not right are refused ahead of the state.
func TestWrongPrograms(t *testing.T) {
	for _, p := range drawn.Wrong() {
		want := proof.Check(p)
		for _, s := range []api.State{{Frames: []api.Frame{{}}, Fuel: 5}, {}, {Status: 9, Frames: []api.Frame{{Fn: 9}}}, {Status: api.Done}} {
			wantNot(t, fmt.Sprint(p, s), p, s, want)
		}
	}
}

// mayBe: P4.2's words, told anew.
func mayBe(p api.Program, s api.State) bool {
	six := []int{api.Running, api.Done, api.Empty, api.Zero, api.Outside, api.Deep}
	if !slices.Contains(six, s.Status) || s.Fuel != max(0, min(s.Fuel, 10000)) || len(s.Frames) > 8 || len(s.Answers) > 100 {
		return false
	}
	if s.Status == api.Done && len(s.Frames) > 0 || s.Status != api.Done && (len(s.Frames) == 0 || s.Value != 0) {
		return false
	}
	called := -1
	for _, f := range s.Frames {
		if called >= 0 && f.Fn != called || f.Fn < 0 || f.Fn >= len(p.Funcs) || f.Pc < 0 || f.Pc >= len(p.Funcs[f.Fn].Code) {
			return false
		}
		called = math.MaxInt
		if x := p.Funcs[f.Fn].Code[f.Pc]; x.Op == api.Call {
			called = x.Imm
		}
	}
	return true
}

// bend a state at some point.
func bend(d *drawn.Die, s api.State) api.State {
	near := []int{-1, 0, 1, 2, 3, 4, 5, 6, api.MaxFuel, api.MaxFuel + 1}
	n := near[d.Below(len(near))]
	switch d.Below(6) {
	case 0:
		s.Status = n
	case 1:
		s.Value = n
	case 2:
		s.Fuel = n
	case 3:
		s.Answers = make([]int, 98+d.Below(5))
	case 4:
		s.Frames = s.Frames[:d.Below(len(s.Frames)+1)]
	default:
		for i := range s.Frames {
			if d.Below(2) == 0 {
				s.Frames[i].Fn = d.Below(5)
			}
			if d.Below(2) == 0 {
				s.Frames[i].Pc = n
			}
		}
	}
	return s
}

// TestBent (P4.2): states of drawn runs may be; bent ones are held against the words.
func TestBent(t *testing.T) {
	d := drawn.Die(42)
	seen := map[bool]int{}
	for range 3000 {
		p := drawn.Right(&d)
		s, _ := step.Walk(p, told.Begin(t, p, numbers(&d, p.Funcs[0].Params), numbers(&d, 2), d.Below(200)), d.Below(200))
		if e := step.Check(p, s); e != api.OK {
			t.Fatalf("%v may be for %v, but Check says %v", s, p, e)
		}
		s = bend(&d, s)
		may := mayBe(p, s)
		if e := step.Check(p, s); (e == api.OK) != may || e != api.OK && e != api.ErrState {
			t.Fatalf("Check(%v, %v): %v, want %v", p, s, e, may)
		}
		seen[may]++
	}
	if seen[true] < 500 || seen[false] < 500 {
		t.Errorf("too few of a kind: %v", seen)
	}
}
