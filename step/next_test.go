package step_test

import (
	"fmt"
	"math"
	"slices"
	"testing"

	"tierline/api"
	"tierline/drawn"
	"tierline/step"
	"tierline/told"
)

// running: a state with one frame of the function 0.
func running(pc, fuel int, l ...int) api.State {
	return api.State{Frames: []api.Frame{{Pc: pc, Regs: regs(l...)}}, Fuel: fuel}
}

func wantNext(t *testing.T, text string, s, want api.State) {
	t.Helper()
	w, e := step.Next(told.Text(t, text), s)
	wantState(t, fmt.Sprintf("Next of %q, %v", text, s), w, e, want)
}

// TestMakers (P4.3): Set to Eq put what Make makes into Dst, and go on; also if Dst is read.
func TestMakers(t *testing.T) {
	wantNext(t, "func 2 4\nset r3 -9\nret r0\n", running(0, 5, 1, 2, 3, 4), running(1, 4, 1, 2, 3, -9))
	words := []string{"add", "sub", "mul", "div", "and", "or", "xor", "shl", "sar", "lt", "eq"}
	for i, w := range words {
		for _, c := range [][2]int{{13, 3}, {-13, 3}, {3, 13}, {math.MaxInt, math.MaxInt}, {math.MinInt, -1}} {
			v := made(api.Add+i, c[0], c[1], 0)
			wantNext(t, "func 2 4\n"+w+" r3 r0 r1\nret r0\n", running(0, 5, c[0], c[1], 7, 8), running(1, 4, c[0], c[1], 7, v))
			wantNext(t, "func 2 4\n"+w+" r0 r0 r1\nret r0\n", running(0, 5, c[0], c[1], 7, 8), running(1, 4, v, c[1], 7, 8))
			wantNext(t, "func 2 4\n"+w+" r1 r0 r1\nret r0\n", running(0, 5, c[0], c[1], 7, 8), running(1, 4, c[0], v, 7, 8))
			v = made(api.Add+i, c[0], c[0], 0)
			wantNext(t, "func 2 4\n"+w+" r1 r0 r0\nret r0\n", running(0, 5, c[0], c[1], 7, 8), running(1, 4, c[0], v, 7, 8))
		}
	}
}

// TestMemory (P4.3): Load and Store, at all words of the memory.
func TestMemory(t *testing.T) {
	for word := range api.Memory {
		s := running(0, 5, word, 99, 7)
		for i := range s.Memory {
			s.Memory[i] = 100 + i
		}
		want := running(1, 4, word, 99, 100+word)
		want.Memory = s.Memory
		wantNext(t, "func 2 3\nload r2 r0\nret r0\n", s, want)
		want = running(1, 4, 100+word, 99, 7)
		want.Memory = s.Memory
		wantNext(t, "func 2 3\nload r0 r0\nret r0\n", s, want)
		want = running(1, 4, word, 99, 7)
		want.Memory = s.Memory
		want.Memory[word] = 99
		wantNext(t, "func 2 3\nstore r0 r1\nret r0\n", s, want)
		want.Memory[word] = word
		wantNext(t, "func 2 3\nstore r0 r0\nret r0\n", s, want)
	}
}

// TestOutside (P4.3): beyond the memory, the status is all that changes; no fuel is taken.
func TestOutside(t *testing.T) {
	for _, word := range []int{-1, api.Memory, api.Memory + 1, -api.Memory, 1 << 32, math.MinInt, math.MaxInt} {
		for _, text := range []string{"func 2 2\nload r1 r0\nret r0\n", "func 2 2\nstore r0 r1\nret r0\n", "func 2 2\nload r0 r0\nret r0\n"} {
			want := running(0, 5, word, 9)
			want.Status = api.Outside
			wantNext(t, text, running(0, 5, word, 9), want)
		}
	}
	// Only A is a word of the memory.
	want := running(1, 4, 0, -1)
	want.Memory[0] = -1
	wantNext(t, "func 2 2\nstore r0 r1\nret r0\n", running(0, 5, 0, -1), want)
}

// TestZero (P4.3): a Div by 0; the status is all that changes.
func TestZero(t *testing.T) {
	for _, a := range edges {
		want := running(0, 5, a, 0)
		want.Status = api.Zero
		wantNext(t, "func 2 2\ndiv r0 r0 r1\nret r0\n", running(0, 5, a, 0), want)
	}
	wantNext(t, "func 2 2\ndiv r0 r0 r1\nret r0\n", running(0, 5, 0, 7), running(1, 4, 0, 7))
}

// TestJumps (P4.3): a Jump goes to its target, an If only if A is not 0.
func TestJumps(t *testing.T) {
	wantNext(t, "func 1 1\nret r0\njump 0\nret r0\n", running(1, 5, 3), running(0, 4, 3))
	wantNext(t, "func 1 1\njump 2\nret r0\nret r0\n", running(0, 5, 3), running(2, 4, 3))
	wantNext(t, "func 1 1\njump 0\n", running(0, 5, 3), running(0, 4, 3))
	const back = "func 1 1\nret r0\nif r0 0\nret r0\n"
	for _, a := range edges {
		to := 0
		if a == 0 {
			to = 2
		}
		wantNext(t, back, running(1, 5, a), running(to, 4, a))
	}
	wantNext(t, "func 2 2\nif r1 0\nret r1\n", running(0, 5, 1, 0), running(1, 4, 1, 0))
}

// TestHost (P4.3): what the host is told, and what it answers; 0, if it has nothing to say.
func TestHost(t *testing.T) {
	const text = "func 2 2\nhost r1 r0\nret r1\n"
	for _, c := range []struct {
		answers []int
		first   int
		left    []int
	}{
		{nil, 0, nil},
		{[]int{}, 0, nil},
		{[]int{8}, 8, nil},
		{[]int{0, 8}, 0, []int{8}},
		{[]int{-8, 9, 10}, -8, []int{9, 10}},
	} {
		s := running(0, 5, 3, 4)
		s.Events, s.Answers = []int{1, 2}, c.answers
		want := running(1, 4, 3, c.first)
		want.Events, want.Answers = []int{1, 2, 3}, c.left
		wantNext(t, text, s, want)
	}
	// What is told is what A is ahead of the step.
	s := running(0, 5, 3)
	s.Answers = []int{7}
	want := running(1, 4, 7)
	want.Events = []int{3}
	wantNext(t, "func 1 1\nhost r0 r0\nret r0\n", s, want)
}

// TestCall (P4.3): a new frame with as many parameters as its function has; the one who calls stays where it is.
func TestCall(t *testing.T) {
	for params, f := range []string{"func 0 3\nset r0 0\nret r0\n", "func 1 3\nret r0\n", "func 2 3\nret r0\n"} {
		s := running(1, 5, 3, 4)
		want := running(1, 4, 3, 4)
		want.Frames = append(want.Frames, api.Frame{Fn: 1, Regs: regs([]int{4, 3}[:params]...)})
		wantNext(t, "func 2 2\nret r0\ncall r0 1 r1 r0\nret r0\n"+f, s, want)
	}
	s := running(0, 1, 6)
	want := running(0, 0, 6)
	want.Frames = append(want.Frames, api.Frame{Regs: regs(6)})
	wantNext(t, endless, s, want)
}

// TestDeep (P4.3): with all frames there are, a Call is Deep: it takes from the fuel, and stays where it is.
func TestDeep(t *testing.T) {
	want := deep(api.MaxDepth)
	want.Fuel--
	wantNext(t, endless, deep(api.MaxDepth-1), want)
	want.Status, want.Fuel = api.Deep, 8
	wantNext(t, endless, deep(api.MaxDepth), want)
}

// TestRet (P4.3): the last frame goes; the one who called has the number in the register of its Call, and goes on.
func TestRet(t *testing.T) {
	done := api.State{Status: api.Done, Value: -7, Fuel: 4, Events: []int{1}, Answers: []int{2}}
	done.Memory[3] = 3
	s := running(0, 5, 1, -7)
	s.Memory, s.Events, s.Answers = done.Memory, done.Events, done.Answers
	wantNext(t, "func 2 2\nret r1\n", s, done)

	const text = "func 2 3\nset r2 0\ncall r2 1 r0 r1\nret r0\nfunc 1 2\nset r1 0\nret r1\n"
	s = running(1, 5, 1, 2, 3)
	s.Frames = append(s.Frames, api.Frame{Fn: 1, Pc: 1, Regs: regs(8, 9)})
	wantNext(t, text, s, running(2, 4, 1, 2, 9))

	// Of several frames only the one ahead of the last goes on.
	s = running(1, 5, 4)
	const chain = "func 1 1\nset r0 0\ncall r0 1 r0 r0\nret r0\nfunc 1 2\ncall r1 2 r0 r0\nret r1\nfunc 1 1\nret r0\n"
	s.Frames = append(s.Frames, api.Frame{Fn: 1, Regs: regs(5)}, api.Frame{Fn: 2, Regs: regs(6)})
	want := running(1, 4, 4)
	want.Frames = append(want.Frames, api.Frame{Fn: 1, Pc: 1, Regs: regs(5, 6)})
	wantNext(t, chain, s, want)
}

// TestLastRuns (P4.3): of several frames the last one's instruction is done, with its registers.
func TestLastRuns(t *testing.T) {
	const text = "func 1 2\ncall r1 1 r0 r0\nret r1\nfunc 1 1\nadd r0 r0 r0\nret r0\n"
	s := running(0, 5, 3, 4)
	s.Frames = append(s.Frames, api.Frame{Fn: 1, Regs: regs(8)})
	want := running(0, 4, 3, 4)
	want.Frames = append(want.Frames, api.Frame{Fn: 1, Pc: 1, Regs: regs(16)})
	wantNext(t, text, s, want)
}

// TestEmpty (P4.3): without fuel the status is all that changes, whatever the instruction is; with the last bit of it, it is done.
func TestEmpty(t *testing.T) {
	for _, text := range []string{
		"func 2 2\nset r0 1\nret r0\n", "func 2 2\ndiv r0 r0 r1\nret r0\n", "func 2 2\nload r0 r0\nret r0\n",
		"func 2 2\nstore r0 r0\nret r0\n", "func 2 2\njump 1\nret r0\n", "func 2 2\nif r0 1\nret r0\n",
		"func 2 2\ncall r0 0 r0 r1\nret r0\n", "func 2 2\nhost r0 r0\nret r0\n", "func 2 2\nret r0\n",
	} {
		s := running(0, 0, -5, 0)
		s.Answers = []int{7}
		want := s
		want.Status = api.Empty
		wantNext(t, text, s, want)
	}
	s := deep(api.MaxDepth)
	s.Fuel = 0
	want := s
	want.Status = api.Empty
	wantNext(t, endless, s, want)
	wantNext(t, "func 1 1\njump 0\n", running(0, 1), running(0, 0))
}

// TestStays (P4.3): a state that is not Running stays.
func TestStays(t *testing.T) {
	p := told.Text(t, "func 2 2\nhost r0 r0\nret r0\n")
	for _, status := range []int{api.Empty, api.Zero, api.Outside, api.Deep} {
		s := running(0, 5, 1, 2)
		s.Status, s.Events, s.Answers = status, []int{4}, []int{5}
		wantNext(t, "func 2 2\nhost r0 r0\nret r0\n", s, s)
		w, e := step.Walk(p, s, 100)
		wantState(t, "Walk", w, e, s)
	}
	done := api.State{Status: api.Done, Value: 5, Fuel: 3, Events: []int{4}, Answers: []int{5}}
	wantNext(t, "func 2 2\nret r0\n", done, done)
	w, e := step.Walk(p, done, math.MaxInt)
	wantState(t, "Walk", w, e, done)
}

// TestRunsOut (P4.2, P4.3): from a place that is not reached a step may lead out of the function; there is no step from there.
func TestRunsOut(t *testing.T) {
	p := told.Text(t, "func 1 1\nret r0\nset r0 5\n")
	s := next(t, p, running(1, 3, 1))
	wantState(t, "Next", s, api.OK, running(2, 2, 5))
	wantNot(t, "behind the last instruction", p, s, api.ErrState)
	for n := 2; n < 5; n++ {
		w, e := step.Walk(p, running(1, 3, 1), n)
		wantRefused(t, "Walk out of the function", w, e, api.ErrState)
	}
	w, e := step.Walk(p, running(1, 1, 1), 2)
	wantRefused(t, "Walk out of the function, and the fuel", w, e, api.ErrState)
	// Back from a Call that is not reached, and is the last instruction.
	p = told.Text(t, "func 1 1\nret r0\ncall r0 0 r0 r0\n")
	s = running(1, 3, 1)
	s.Frames = append(s.Frames, api.Frame{Regs: regs(8)})
	w, e = step.Walk(p, s, 1)
	wantState(t, "Walk back", w, e, running(2, 2, 8))
	w, e = step.Walk(p, s, 2)
	wantRefused(t, "Walk back and on", w, e, api.ErrState)
	// An If that goes to its target stays within.
	p = told.Text(t, "func 1 1\nret r0\nif r0 0\n")
	w, e = step.Walk(p, running(1, 3, 6), 2)
	wantState(t, "Walk to the target", w, e, api.State{Status: api.Done, Value: 6, Fuel: 1})
}

// TestFallsAndStays (what comes of it): with each step the fuel falls, or the run ends; what was told stays told.
func TestFallsAndStays(t *testing.T) {
	d := drawn.Die(43)
	for range 400 {
		p := drawn.Right(&d)
		s := told.Begin(t, p, numbers(&d, p.Funcs[0].Params), numbers(&d, d.Below(4)), d.Below(150))
		for s.Status == api.Running {
			w := next(t, p, s)
			taken := s.Fuel - w.Fuel
			if taken != 1 && (taken != 0 || w.Status == api.Running || w.Status == api.Done || w.Status == api.Deep) {
				t.Fatalf("%v takes %d from the fuel of %v, %v", p, taken, s, w)
			}
			if n := len(s.Events); len(w.Events) > n+1 || !slices.Equal(s.Events, w.Events[:n]) {
				t.Fatalf("%v tells %v behind %v", p, w.Events, s.Events)
			}
			s = w
		}
	}
}
