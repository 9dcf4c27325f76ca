package step_test

import (
	"fmt"
	"math"
	"slices"
	"testing"

	"tierline/api"
	"tierline/drawn"
	"tierline/proof"
	"tierline/step"
	"tierline/told"
)

// TestBegin (P4.1): the state ahead of a run.
func TestBegin(t *testing.T) {
	none := told.Text(t, "func 0 1\nset r0 5\nret r0\nfunc 1 1\nret r0\n")
	two := told.Text(t, "func 2 12\nret r1\nfunc 0 1\nset r0 0\nret r0\n")
	for _, c := range []struct {
		p             api.Program
		args, answers []int
		fuel          int
	}{
		{none, nil, nil, 0},
		{none, []int{}, []int{}, 1},
		{none, nil, []int{7}, api.MaxFuel},
		{told.Text(t, counted), []int{10}, []int{3, 0, 4}, 100},
		{two, []int{math.MinInt, math.MaxInt}, nil, api.MaxFuel - 1},
		{two, []int{1, 0}, slices.Repeat([]int{math.MinInt}, api.MaxAnswers), 12},
	} {
		s, e := step.Begin(c.p, c.args, c.answers, c.fuel)
		want := api.State{Frames: []api.Frame{{Regs: regs(c.args...)}}, Fuel: c.fuel, Answers: c.answers}
		wantState(t, fmt.Sprint("Begin ", c), s, e, want)
	}
}

// refusals: arguments with which neither Begin nor Run begins a run of counted, and how they are refused.
func refusals() map[api.Errno][]begins {
	many := make([]int, api.MaxAnswers+1)
	return map[api.Errno][]begins{
		api.ErrSize: {
			{nil, nil, 5},
			{[]int{}, nil, 5},
			{[]int{1, 2}, nil, 5},
			{[]int{1, 2, 3}, nil, 5},
			{make([]int, 13), nil, 5},
			{[]int{1}, many, 5},
			{[]int{1}, make([]int, 1000), 5},
			// Ahead of the fuel.
			{nil, nil, -1},
			{[]int{1, 2}, nil, api.MaxFuel + 1},
			{[]int{1}, many, math.MinInt},
		},
		api.ErrRange: {
			{[]int{1}, nil, -1},
			{[]int{1}, nil, api.MaxFuel + 1},
			{[]int{1}, many[1:], math.MinInt},
			{[]int{1}, nil, math.MaxInt},
			{[]int{1}, nil, 1 << 32},
		},
	}
}

// begins: what a run is given.
type begins struct {
	args, answers []int
	fuel          int
}

// TestBeginRefuses (P4.1, P4.6): too few or too many arguments, too many answers, fuel out of its bounds; programs that are not right ahead of all that.
func TestBeginRefuses(t *testing.T) {
	p := told.Text(t, counted)
	for want, l := range refusals() {
		for _, c := range l {
			s, e := step.Begin(p, c.args, c.answers, c.fuel)
			wantRefused(t, fmt.Sprint("Begin ", c), s, e, want)
			s, e = step.Run(p, c.args, c.answers, c.fuel)
			wantRefused(t, fmt.Sprint("Run ", c), s, e, want)
		}
	}
	for _, p := range drawn.Wrong() {
		want := proof.Check(p)
		for _, c := range []begins{{nil, nil, 5}, {[]int{1}, nil, 5}, {make([]int, 9), make([]int, 999), -1}} {
			s, e := step.Begin(p, c.args, c.answers, c.fuel)
			wantRefused(t, fmt.Sprint("Begin ", p, c), s, e, want)
			s, e = step.Run(p, c.args, c.answers, c.fuel)
			wantRefused(t, fmt.Sprint("Run ", p, c), s, e, want)
		}
	}
}

// TestArguments (P4.1): each number of parameters takes as many arguments, and no others; other functions' parameters do not count.
func TestArguments(t *testing.T) {
	for params, text := range []string{"func 0 2\nset r0 1\nret r0\n", "func 1 2\nret r0\n", "func 2 2\nret r0\n"} {
		for n := range 4 {
			p := told.Text(t, text+"func 1 1\nret r0\n")
			want := api.OK
			if n != params {
				want = api.ErrSize
			}
			if _, e := step.Begin(p, make([]int, n), nil, 1); e != want {
				t.Errorf("Begin with %d arguments for %d parameters: %v, want %v", n, params, e, want)
			}
		}
	}
}
