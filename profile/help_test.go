package profile_test

import (
	"fmt"
	"slices"
	"testing"

	"tierline/api"
	"tierline/profile"
	"tierline/step"
	"tierline/told"
)

const (
	counted = told.Counted
	// endless calls itself.
	endless = "func 1 1\ncall r0 0 r0 r0\nret r0\n"
	// twice calls another function two times.
	twice = "func 1 2\ncall r1 1 r0 r0\ncall r0 1 r1 r1\nret r0\nfunc 1 1\nadd r0 r0 r0\nret r0\n"
	// asking asks the host till it answers 2.
	asking = "func 1 2\nhost r0 r0\nset r1 2\nsub r1 r0 r1\nif r1 0\nret r0\n"
	// factorial by calls of itself.
	factorial = "func 1 3\nif r0 3\nset r0 1\nret r0\nset r1 1\nsub r1 r0 r1\ncall r1 0 r1 r1\nmul r0 r0 r1\nret r0\n"
)

// countsOf a run, by its words (P6.1): each step begins anew from the run's beginning.
func countsOf(t *testing.T, p api.Program, args, answers []int, fuel int) [][]int {
	t.Helper()
	begun, e := step.Begin(p, args, answers, fuel)
	if e != api.OK {
		t.Fatalf("Begin(%v, %v, %v, %d): %v, want OK", p, args, answers, fuel, e)
	}
	var l [][]int
	for _, f := range p.Funcs {
		l = append(l, make([]int, len(f.Code)))
	}
	for n := 0; ; n++ {
		ahead, _ := step.Walk(p, begun, n)
		behind, _ := step.Walk(p, begun, n+1)
		if ahead.Status != api.Running {
			return l
		}
		if behind.Fuel < ahead.Fuel {
			f := ahead.Frames[len(ahead.Frames)-1]
			l[f.Fn][f.Pc]++
		}
	}
}

// togetherOf: for each function, how often its instructions were done together.
func togetherOf(l [][]int) []int {
	var all []int
	for _, counts := range l {
		n := 0
		for _, times := range counts {
			n += times
		}
		all = append(all, n)
	}
	return all
}

// wantProfile: both answers are those of the chapter's words, and all counts together the fuel that was used.
func wantProfile(t *testing.T, p api.Program, args, answers []int, fuel int) [][]int {
	t.Helper()
	what := fmt.Sprint(p, args, answers, fuel)
	l, e := profile.Counts(p, args, answers, fuel)
	if want := countsOf(t, p, args, answers, fuel); e != api.OK || !same(l, want) {
		t.Fatalf("Counts %s: %v %v, want %v", what, l, e, want)
	}
	together := togetherOf(l)
	most := slices.Max(together)
	wantHot(t, what, p, args, answers, fuel, slices.Index(together, most), most)
	s, _ := step.Run(p, args, answers, fuel)
	if all := togetherOf([][]int{together})[0]; all != fuel-s.Fuel {
		t.Errorf("Counts %s: %d together, want %d", what, all, fuel-s.Fuel)
	}
	return l
}

func wantHot(t *testing.T, what string, p api.Program, args, answers []int, fuel, fn, most int) {
	t.Helper()
	if hot, n, e := profile.Hot(p, args, answers, fuel); hot != fn || n != most || e != api.OK {
		t.Errorf("Hot %s: %d %d %v, want %d %d", what, hot, n, e, fn, most)
	}
}

// wantRefused: Counts and Hot refuse it alike, and answer nothing.
func wantRefused(t *testing.T, p api.Program, args, answers []int, fuel int, want api.Errno) {
	t.Helper()
	if l, e := profile.Counts(p, args, answers, fuel); len(l) != 0 || e != want {
		t.Errorf("Counts(%v, %v, %v, %d): %v %v, want nothing and %v", p, args, answers, fuel, l, e, want)
	}
	if hot, n, e := profile.Hot(p, args, answers, fuel); hot != 0 || n != 0 || e != want {
		t.Errorf("Hot(%v, %v, %v, %d): %d %d %v, want nothing and %v", p, args, answers, fuel, hot, n, e, want)
	}
}

func same(a, b [][]int) bool { return slices.EqualFunc(a, b, slices.Equal[[]int]) }
