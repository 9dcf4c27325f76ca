package profile_test

import (
	"fmt"
	"math"
	"slices"
	"strings"
	"testing"

	"tierline/api"
	"tierline/code"
	"tierline/drawn"
	"tierline/profile"
	"tierline/proof"
	"tierline/step"
	"tierline/told"
)

// greatest: a program at the limits, each instruction of which is done once.
func greatest() (string, [][]int) {
	s := ""
	var l [][]int
	for fn := 1; fn < api.MaxFuncs; fn++ {
		s += "func 1 12\n" + strings.Repeat("set r11 0\n", api.MaxCode-2) + fmt.Sprintf("call r0 %d r0 r0\nret r0\n", fn)
		l = append(l, slices.Repeat([]int{1}, api.MaxCode))
	}
	return s + "func 1 12\n" + strings.Repeat("set r11 0\n", api.MaxCode-1) + "ret r0\n", append(l, l[0])
}

// TestCounts (P6.1): runs to their ends, of each status.
func TestCounts(t *testing.T) {
	great, ones := greatest()
	for _, c := range []struct {
		text          string
		args, answers []int
		fuel          int
		want          [][]int
	}{
		{counted, []int{2}, nil, 50, [][]int{{1, 1, 3, 1, 2, 2, 2}}},
		{counted, []int{0}, nil, 50, [][]int{{1, 1, 1, 1, 0, 0, 0}}},
		{counted, []int{10}, nil, 44, [][]int{{1, 1, 11, 1, 10, 10, 10}}},
		// Empty: the step that finds no fuel is none that takes from it.
		{counted, []int{10}, nil, 43, [][]int{{1, 1, 11, 0, 10, 10, 10}}},
		{counted, []int{10}, nil, 1, [][]int{{1, 0, 0, 0, 0, 0, 0}}},
		{counted, []int{10}, nil, 0, [][]int{{0, 0, 0, 0, 0, 0, 0}}},
		{counted, []int{-1}, nil, api.MaxFuel, [][]int{{1, 1, 2500, 0, 2500, 2499, 2499}}},
		{"func 0 1\njump 0\n", nil, nil, api.MaxFuel, [][]int{{api.MaxFuel}}},
		// Zero and Outside take no fuel.
		{"func 2 2\ndiv r0 r0 r1\nret r0\n", []int{7, 0}, nil, 9, [][]int{{0, 0}}},
		{"func 2 3\nset r2 1\ndiv r0 r0 r1\nsub r1 r1 r2\njump 1\n", []int{7, 2}, nil, 99, [][]int{{1, 2, 2, 2}}},
		{"func 1 3\nset r1 1\nload r2 r0\nadd r0 r0 r1\njump 1\n", []int{13}, nil, 99, [][]int{{1, 3, 3, 3}}},
		{"func 1 3\nset r1 -1\nstore r0 r1\nadd r0 r0 r1\njump 1\n", []int{1}, nil, 99, [][]int{{1, 2, 2, 2}}},
		// Deep does, though no frame comes of it.
		{endless, []int{1}, nil, 99, [][]int{{api.MaxDepth, 0}}},
		{endless, []int{1}, nil, api.MaxDepth, [][]int{{api.MaxDepth, 0}}},
		{endless, []int{1}, nil, api.MaxDepth - 1, [][]int{{api.MaxDepth - 1, 0}}},
		// Other functions; frames of one function count together.
		{twice, []int{3}, nil, 99, [][]int{{1, 1, 1}, {2, 2}}},
		{twice, []int{3}, nil, 5, [][]int{{1, 1, 0}, {2, 1}}},
		{factorial, []int{7}, nil, 99, [][]int{{8, 1, 1, 7, 7, 7, 7, 7}}},
		// What is not reached, not called, or not come to in this run.
		{"func 1 1\njump 2\nret r0\nret r0\nfunc 1 1\nret r0\n", []int{1}, nil, 99, [][]int{{1, 0, 1}, {0}}},
		{"func 1 1\nif r0 2\nret r0\ncall r0 2 r0 r0\nret r0\nfunc 1 1\nret r0\nfunc 1 1\nret r0\n", []int{0}, nil, 99, [][]int{{1, 1, 0, 0}, {0}, {0}}},
		{"func 1 1\nif r0 2\nret r0\ncall r0 2 r0 r0\nret r0\nfunc 1 1\nret r0\nfunc 1 1\nret r0\n", []int{9}, nil, 99, [][]int{{1, 0, 1, 1}, {0}, {1}}},
		// What the host answers is heeded, and taken away.
		{asking, []int{7}, []int{3, 4, 2, 9}, 99, [][]int{{3, 3, 3, 3, 1}}},
		{asking, []int{7}, []int{2}, 99, [][]int{{1, 1, 1, 1, 1}}},
		{asking, []int{7}, nil, 9, [][]int{{3, 2, 2, 2, 0}}},
		{asking, []int{7}, append(make([]int, api.MaxAnswers-1), 2), api.MaxFuel, [][]int{{100, 100, 100, 100, 1}}},
		{"func 1 1\nhost r0 r0\njump 0\n", []int{7}, nil, api.MaxFuel, [][]int{{api.MaxFuel / 2, api.MaxFuel / 2}}},
		{great, []int{1}, nil, api.MaxFuel, ones},
	} {
		l, e := profile.Counts(told.Text(t, c.text), c.args, c.answers, c.fuel)
		if e != api.OK || !same(l, c.want) {
			t.Errorf("Counts(%q, %v, %v, %d): %v %v, want %v", c.text, c.args, c.answers, c.fuel, l, e, c.want)
		}
	}
}

// TestHot (P6.2): the function that did most, the first one of several, and how much that is.
func TestHot(t *testing.T) {
	const call, three, four = "func 1 1\ncall r0 %d r0 r0\nret r0\n", "func 1 1\nset r0 0\nset r0 0\nret r0\n", "func 1 1\nset r0 0\nset r0 0\nset r0 0\nret r0\n"
	one, both := fmt.Sprintf(call, 1), "func 1 1\ncall r0 1 r0 r0\ncall r0 2 r0 r0\nret r0\n"
	great, _ := greatest()
	for _, c := range []struct {
		text     string
		fuel     int
		fn, most int
	}{
		{counted, 99, 0, 12},
		{counted, 5, 0, 5},
		{counted, 0, 0, 0},
		{counted + four, 99, 0, 12},
		{endless, 99, 0, api.MaxDepth},
		{"func 0 1\njump 0\n", api.MaxFuel, 0, api.MaxFuel},
		{"func 1 1\nload r0 r0\nload r0 r0\ndiv r0 r0 r0\nret r0\n" + four, 99, 0, 2},
		// The second one does as much as the first one, and then more.
		{one + three, 1, 0, 1},
		{one + three, 2, 0, 1},
		{one + three, 3, 1, 2},
		{one + three, 99, 1, 3},
		{twice, 99, 1, 4},
		{twice, 4, 0, 2},
		// Two of three do as much.
		{both + three + three, 99, 0, 3},
		{both + three + four, 99, 2, 4},
		{both + four + three, 99, 1, 4},
		{both + four + four, 99, 1, 4},
		{both + four + four, 9, 1, 4},
		{both + four + four + four, 99, 1, 4},
		{fmt.Sprintf(call+call+call, 3, 1, 2) + four, 99, 3, 4},
		// Together counts, not one instruction alone, and not how many there are.
		{"func 1 1\nset r0 2\nset r0 2\nset r0 2\nset r0 2\nset r0 2\nset r0 2\ncall r0 1 r0 r0\nret r0\nfunc 1 2\nset r1 -1\nadd r0 r0 r1\nif r0 1\nret r0\n", 99, 0, 8},
		{"func 1 1\njump 4\nret r0\nret r0\nret r0\ncall r0 1 r0 r0\nret r0\n" + four, 99, 1, 4},
		{great, api.MaxFuel, 0, api.MaxCode},
	} {
		p := told.Text(t, c.text)
		wantHot(t, fmt.Sprintf("%q %d", c.text, c.fuel), p, []int{2}[:p.Funcs[0].Params], nil, c.fuel, c.fn, c.most)
	}
}

// TestRefuses (P6.1, P6.2): too few or too many arguments, too many answers, fuel out of its bounds, each at the nearest, and the one that is named first.
func TestRefuses(t *testing.T) {
	many := make([]int, api.MaxAnswers+1)
	p := told.Text(t, twice)
	for _, c := range []struct {
		args, answers []int
		fuel          int
		want          api.Errno
	}{
		{nil, nil, 5, api.ErrSize},
		{[]int{}, nil, 5, api.ErrSize},
		{[]int{1, 2}, nil, 5, api.ErrSize},
		{make([]int, api.MaxRegs+1), nil, 5, api.ErrSize},
		{[]int{1}, many, 5, api.ErrSize},
		{[]int{1}, make([]int, 1000), 5, api.ErrSize},
		{nil, nil, -1, api.ErrSize},
		{[]int{1}, many, api.MaxFuel + 1, api.ErrSize},
		{[]int{1}, nil, -1, api.ErrRange},
		{[]int{1}, many[1:], api.MaxFuel + 1, api.ErrRange},
		{[]int{1}, nil, 1 << 32, api.ErrRange},
		{[]int{1}, nil, math.MinInt, api.ErrRange},
		{[]int{1}, nil, math.MaxInt, api.ErrRange},
	} {
		wantRefused(t, p, c.args, c.answers, c.fuel, c.want)
	}
}

// TestWrong (P6.1, P6.2): programs that are not right are refused ahead of all else, also where nobody calls what is wrong.
func TestWrong(t *testing.T) {
	for _, p := range drawn.WrongAnywhere() {
		want := proof.Check(p)
		wantRefused(t, p, []int{1}, nil, 5, want)
		wantRefused(t, p, nil, nil, 0, want)
		wantRefused(t, p, make([]int, 9), make([]int, 999), -1, want)
	}
}

// TestDrawn (P6.1, P6.2, and what comes of it): drawn runs, held against the chapter's words.
func TestDrawn(t *testing.T) {
	d := drawn.Die(61)
	var seen [api.Deep + 1]int
	var hot [api.MaxFuncs]int
	ties := 0
	for range 1000 {
		p := drawn.Right(&d)
		args, answers, fuel := drawn.Args(&d, p), []int{1, 0, d.Below(20)}[:d.Below(4)], d.Below(150)
		together := togetherOf(wantProfile(t, p, args, answers, fuel))
		s, _ := step.Run(p, args, answers, fuel)
		seen[s.Status]++
		most := slices.Max(together)
		fn := slices.Index(together, most)
		hot[fn]++
		if most > 0 && slices.Contains(together[fn+1:], most) {
			ties++
		}
	}
	for status, times := range seen {
		if status != api.Running && times < 10 {
			t.Errorf("status %d comes only %d times", status, times)
		}
	}
	if slices.Min(hot[:]) < 5 || ties < 3 {
		t.Errorf("hot functions: %v, with others that did as much: %d", hot, ties)
	}
}

// TestFuel (P6.1): one more of fuel is one more step, till the run ends otherwise; what was counted stays.
func TestFuel(t *testing.T) {
	d := drawn.Die(62)
	for range 100 {
		p := drawn.Right(&d)
		args := drawn.Args(&d, p)
		l, _ := profile.Counts(p, args, []int{3}, 0)
		for fuel := range 60 {
			s, _ := step.Run(p, args, []int{3}, fuel)
			more, _ := profile.Counts(p, args, []int{3}, fuel+1)
			if s.Status == api.Empty {
				f := s.Frames[len(s.Frames)-1]
				next, _ := step.Run(p, args, []int{3}, fuel+1)
				l[f.Fn][f.Pc] += 1 - next.Fuel
			}
			if !same(more, l) {
				t.Fatalf("Counts(%v, %v, [3], %d): %v, want %v", p, args, fuel+1, more, l)
			}
		}
	}
}

// FuzzProfile (P6.1, P6.2): whatever the program is, the answers are those of the chapter's words.
func FuzzProfile(f *testing.F) {
	d := drawn.Die(63)
	for range 20 {
		l, _ := code.Encode(drawn.Right(&d))
		f.Add(l, d.Below(20), d.Below(20), d.Below(150))
	}
	f.Fuzz(func(t *testing.T, l []byte, a, b, fuel int) {
		p, e := code.Decode(l)
		if e != api.OK || fuel > 400 && fuel <= api.MaxFuel {
			return
		}
		args, answers := []int{a, b}[:p.Funcs[0].Params], []int{b, a}
		if _, want := step.Begin(p, args, answers, fuel); want != api.OK {
			wantRefused(t, p, args, answers, fuel, want)
			return
		}
		wantProfile(t, p, args, answers, fuel)
	})
}
