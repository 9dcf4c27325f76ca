package trim_test

import (
	"fmt"
	"testing"

	"tierline/api"
	"tierline/drawn"
	"tierline/step"
	"tierline/told"
	"tierline/trim"
)

// movedState: where a state of a program is in what is left of that.
func movedState(p api.Program, s api.State) api.State {
	called := calledOf(p)
	for i, f := range s.Frames {
		s.Frames[i].Pc = whereOf(p.Funcs[f.Fn])[f.Pc]
		s.Frames[i].Fn = calledAhead(called, f.Fn)
	}
	return s
}

// TestRuns (what comes of P5): what is left runs as the program did, at each number of steps.
func TestRuns(t *testing.T) {
	d := drawn.Die(54)
	var seen [api.Deep + 1]int
	for range 500 {
		p := drawn.Right(&d)
		q, e := trim.Program(p)
		if e != api.OK {
			t.Fatalf("Program(%v): %v, want OK", p, e)
		}
		l, answers, fuel := drawn.Args(&d, p), []int{1, 0, d.Below(20)}, d.Below(200)
		ahead, _ := step.Begin(p, l, answers, fuel)
		begun, e := step.Begin(q, l, answers, fuel)
		if e != api.OK {
			t.Fatalf("Begin(%v, %v): %v, want OK", q, l, e)
		}
		for n := 1; ; n *= 2 {
			s, _ := step.Walk(p, ahead, n)
			w, e := step.Walk(q, begun, n)
			if want := movedState(p, s); e != api.OK || !same(w, want) {
				t.Fatalf("%d steps of %v: %v %v, want %v", n, q, w, e, want)
			}
			if s.Status != api.Running {
				seen[s.Status]++
				break
			}
		}
	}
	for status, times := range seen {
		if status != api.Running && times < 10 {
			t.Errorf("status %d comes only %d times", status, times)
		}
	}
}

// TestMemory: what is handed in stays as it is, its spare room too, and shares nothing with what comes out.
func TestMemory(t *testing.T) {
	d := drawn.Die(55)
	for range 100 {
		told.Given(t, drawn.Right(&d), func(p api.Program) func() string {
			q, _ := trim.Program(p)
			called, _ := trim.Called(p)
			places, _ := trim.Where(p, 0)
			return func() string { return fmt.Sprint(q, called, places) }
		})
	}
}

// TestApart: no two lists of an answer share memory, spare room neither, and none is one of another answer.
func TestApart(t *testing.T) {
	p := told.Text(t, "func 1 1\ncall r0 1 r0 r0\ncall r0 2 r0 r0\nret r0\nret r0\nfunc 1 1\nret r0\nret r0\nfunc 1 1\nif r0 1\nhost r0 r0\nret r0\n")
	want, _ := trim.Program(p)
	q, _ := trim.Program(p)
	for i, f := range q.Funcs {
		spare := f.Code[len(f.Code):cap(f.Code)]
		for j := range spare {
			spare[j].Op = 70 + i
		}
	}
	more := q.Funcs[len(q.Funcs):cap(q.Funcs)]
	for j := range more {
		more[j].Regs = 70
	}
	if !same(q, want) {
		t.Errorf("Program(%v): %v, want %v", p, q, want)
	}
	for i := range q.Funcs {
		clear(q.Funcs[i].Code)
		if i+1 < len(q.Funcs) && !same(q.Funcs[i+1], want.Funcs[i+1]) {
			t.Errorf("function %d shares memory with the one ahead of it", i+1)
		}
	}
	if again, _ := trim.Program(p); !same(again, want) {
		t.Errorf("Program(%v): %v, want %v", p, again, want)
	}
}
