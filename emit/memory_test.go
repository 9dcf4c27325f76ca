package emit_test

import (
	"fmt"
	"slices"
	"testing"

	"tierline/api"
	"tierline/drawn"
	"tierline/emit"
	"tierline/told"
)

// TestGiven: the program that is handed in stays as it is, its spare room too, and shares nothing with what comes out.
func TestGiven(t *testing.T) {
	d := drawn.Die(136)
	for i := range 100 {
		p := drawn.Any(&d, i)
		s := told.Begin(t, p, drawn.Args(&d, p), []int{4}, 30)
		told.Given(t, p, func(p api.Program) func() string {
			ws, _ := emit.Function(p, 0)
			c, _ := emit.Enter(p, s)
			far, n, _ := emit.Far(p, s)
			left, _ := emit.Leave(p, s, c)
			return func() string { return fmt.Sprint(ws, c, far, n, left) }
		})
	}
}

// TestGivenStates: lists of a state that is handed in stay as they are, their spare room too, and are not those that come out.
func TestGivenStates(t *testing.T) {
	p := told.Text(t, calling)
	list := []int{1, 2, 3, 4, 5}
	frames := []api.Frame{{Pc: 1}, {Fn: 1, Regs: [api.MaxRegs]int{5, 6}}, {Fn: 7, Pc: 7}}
	s := api.State{Frames: frames[:2], Fuel: 9, Events: list[:2], Answers: list[2:4]}
	before := fmt.Sprint(list, frames)
	c, _ := emit.Enter(p, s)
	c.Data[16], c.Data[29] = 99, 2
	far, _, e := emit.Far(p, s)
	left, f := emit.Leave(p, s, c)
	if e != api.OK || f != api.OK || top(far).Pc != 2 || top(left).Pc != 2 {
		t.Fatalf("Far: %v %v, Leave: %v %v", far, e, left, f)
	}
	for _, l := range []api.State{far, left} {
		clear(l.Frames[:cap(l.Frames)])
		clear(l.Events[:cap(l.Events)])
		clear(l.Answers[:cap(l.Answers)])
	}
	if got := fmt.Sprint(list, frames); got != before {
		t.Errorf("%s is %s now", before, got)
	}
}

// TestApart: no two lists of an answer share memory, though those that are handed in do, and none is one of another answer.
func TestApart(t *testing.T) {
	p := told.Text(t, calling)
	both := []int{1, 2, 3}
	s := full()
	s.Events, s.Answers = both, both
	var lists [][]int
	var frames [][]api.Frame
	for range 2 {
		ws, _ := emit.Function(p, 0)
		far, _, _ := emit.Far(p, s)
		left, _ := emit.Leave(p, s, left(1, 5))
		lists = append(lists, ws, far.Events, far.Answers, left.Events, left.Answers)
		frames = append(frames, far.Frames, left.Frames)
	}
	if !told.Apart(lists, func(x *int) *int { return x }) {
		t.Error("lists of numbers share memory")
	}
	if !told.Apart(frames, func(x *api.Frame) *int { return &x.Pc }) {
		t.Error("lists of frames share memory")
	}
}

// TestSame: asked again, the words are the same.
func TestSame(t *testing.T) {
	d := drawn.Die(137)
	for i := range 20 {
		p := drawn.Any(&d, i)
		want := words(t, p)
		for range 20 {
			if got := words(t, p); !slices.EqualFunc(got, want, slices.Equal) {
				t.Fatalf("asked again of %v: %v, want %v", p, got, want)
			}
		}
	}
}
