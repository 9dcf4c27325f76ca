package tiers_test

import (
	"fmt"
	"testing"

	"tierline/api"
	"tierline/drawn"
	"tierline/step"
	"tierline/tiers"
	"tierline/told"
)

// TestGiven: the program that is handed in stays as it is, its spare room too, and shares nothing with what comes out.
func TestGiven(t *testing.T) {
	d := drawn.Die(145)
	for i := range 100 {
		p := drawn.Any(&d, i)
		args, picks := drawn.Args(&d, p), drawnPicks(&d, 40)
		s, _ := step.Walk(p, told.Begin(t, p, args, []int{4}, 60), 20)
		told.Given(t, p, func(p api.Program) func() string {
			o, _ := tiers.Run(p, args, []int{4}, 60, picks)
			tidied, _ := tiers.Tidy(p, s)
			return func() string { return fmt.Sprint(o, tidied) }
		})
	}
}

// TestGivenLists: arguments, answers and picks that are handed in stay as they are, their spare room too, and share nothing with what comes out.
func TestGivenLists(t *testing.T) {
	d := drawn.Die(146)
	for i := range 200 {
		p := drawn.Any(&d, i)
		args, answers, picks := append(drawn.Args(&d, p), 77), []int{3, 0, 1, 77}, append(drawnPicks(&d, 40), 77)
		before := fmt.Sprint(args, answers, picks)
		o, e := tiers.Run(p, args[:len(args)-1], answers[:3], 100, picks[:40])
		want := fmt.Sprint(o, e)
		if after := fmt.Sprint(args, answers, picks); after != before {
			t.Fatalf("%s was changed to %s", before, after)
		}
		clear(args)
		clear(answers)
		clear(picks)
		if got := fmt.Sprint(o, e); got != want {
			t.Fatalf("%s hangs on what was handed in: %s", want, got)
		}
	}
}

// TestGivenStates: lists of a state that is handed in stay as they are, their spare room too, and are not those that come out.
func TestGivenStates(t *testing.T) {
	p := told.Text(t, calling)
	list := []int{1, 2, 3, 4, 5}
	frames := append(full().Frames, api.Frame{Fn: 7, Pc: 7})
	s := full()
	s.Frames, s.Events, s.Answers = frames[:2], list[:2], list[2:4]
	before := fmt.Sprint(list, frames)
	tidied, e := tiers.Tidy(p, s)
	if got := fmt.Sprint(list, frames); e != api.OK || got != before {
		t.Errorf("%s is %s now, %v", before, got, e)
	}
	clear(tidied.Frames[:cap(tidied.Frames)])
	clear(tidied.Events[:cap(tidied.Events)])
	clear(tidied.Answers[:cap(tidied.Answers)])
	if got := fmt.Sprint(list, frames); got != before {
		t.Errorf("%s is %s now", before, got)
	}
}

// TestApart: no two lists of an answer share memory, though those that are handed in do, and none is one of another answer.
func TestApart(t *testing.T) {
	p := told.Text(t, calling)
	host := told.Text(t, "func 1 1\nhost r0 r0\ncall r0 1 r0 r0\nret r0\nfunc 1 1\nhost r0 r0\ndiv r0 r0 r0\nret r0\n")
	both := []int{1, 0, 3, 4}
	s := full()
	s.Events, s.Answers = both, both
	var lists [][]int
	var frames [][]api.Frame
	for range 2 {
		tidied, _ := tiers.Tidy(p, s)
		lists = append(lists, tidied.Events, tidied.Answers)
		frames = append(frames, tidied.Frames)
		for _, picks := range []string{"", "cscnscnsn", "cnsnscnsn", "cnsnscnsncs"} {
			o, e := tiers.Run(host, both[:1], both, 99, picked(picks))
			if e != api.OK || o.State.Status != api.Zero || len(o.State.Events) != 2 || len(o.State.Answers) != 2 || len(o.State.Frames) != 2 {
				t.Fatalf("%q: %v %v", picks, o, e)
			}
			lists = append(lists, o.State.Events, o.State.Answers, o.Kept)
			frames = append(frames, o.State.Frames)
		}
	}
	lists = append(lists, both)
	if !told.Apart(lists, func(x *int) *int { return x }) {
		t.Error("lists of numbers share memory")
	}
	if !told.Apart(frames, func(x *api.Frame) *int { return &x.Pc }) {
		t.Error("lists of frames share memory")
	}
}

// TestSame: asked again, the answer is the same: nothing is kept from call to call.
func TestSame(t *testing.T) {
	d := drawn.Die(147)
	for i := range 50 {
		p := drawn.Any(&d, i)
		args, picks := drawn.Args(&d, p), drawnPicks(&d, 60)
		want, _ := tiers.Run(p, args, []int{1, 2}, 100, picks)
		for range 10 {
			if o, _ := tiers.Run(p, args, []int{1, 2}, 100, picks); !same(o, want) {
				t.Fatalf("asked again of %v: %v, want %v", p, o, want)
			}
		}
	}
}
