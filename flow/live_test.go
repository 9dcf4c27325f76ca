package flow_test

import (
	"fmt"
	"slices"
	"strings"
	"testing"

	"tierline/api"
	"tierline/drawn"
	"tierline/flow"
	"tierline/proof"
	"tierline/step"
	"tierline/told"
)

func wantLive(t *testing.T, text string, fn int, want []int) {
	t.Helper()
	if l, e := flow.Live(told.Text(t, text), fn); e != api.OK || !slices.Equal(l, want) {
		t.Errorf("Live(%q, %d): %v %v, want %v", text, fn, l, e, want)
	}
}

// TestLive (P7.4): what will be read, ahead of being set.
func TestLive(t *testing.T) {
	for _, c := range []struct {
		text string
		want []int
	}{
		{counted, []int{1, 3, 7, 2, 7, 7, 7}},
		{diamond, []int{1, 0, 2, 0, 2}},
		{nested, []int{0, 2, 3, 3, 1}},
		{crossed, []int{1, 1, 1, 1}},
		{still, []int{3, 3, 1, -1}},
		{"func 1 1\nret r0\n", []int{1}},
		{"func 2 2\nret r1\n", []int{2}},
		// Nothing is ever read.
		{"func 2 2\njump 0\n", []int{0}},
		{"func 2 3\nset r2 0\nset r2 1\njump 0\n", []int{0, 0, 0}},
		// Read and set by one instruction: it is live ahead of that.
		{"func 2 2\nadd r0 r0 r1\nret r0\n", []int{3, 1}},
		{"func 1 1\nhost r0 r0\nret r0\n", []int{1, 1}},
		// Set ahead of the one that reads it: not live ahead of that; set anew for nothing: neither.
		{"func 1 2\nset r0 7\nset r1 8\nset r1 9\nadd r0 r0 r1\nret r0\n", []int{0, 1, 1, 3, 1}},
		// Set on one way alone, or read on one way alone: live ahead of where they part.
		{"func 2 2\nif r0 2\nset r1 0\nret r1\n", []int{3, 0, 2}},
		{"func 2 2\nif r0 2\nret r0\nret r1\n", []int{3, 1, 2}},
		// Read in the next round.
		{"func 2 3\nset r2 0\nstore r2 r1\nset r1 4\nif r0 1\nret r0\n", []int{3, 7, 5, 7, 1}},
		{"func 2 2\nif r0 2\nset r1 1\nadd r0 r0 r1\njump 0\n", []int{3, 1, 3, 3}},
		// Unreached ones read nothing that counts.
		{"func 2 2\njump 2\nadd r0 r0 r1\nret r0\n", []int{1, -1, 1}},
		{"func 2 2\nret r0\nret r1\njump 0\n", []int{1, -1, -1}},
	} {
		wantLive(t, c.text, 0, c.want)
	}
	text := strings.Repeat(still, api.MaxFuncs-1) + diamond
	wantLive(t, text, api.MaxFuncs-1, []int{1, 0, 2, 0, 2})
	wantLive(t, text, api.MaxFuncs-2, []int{3, 3, 1, -1})
}

// TestLiveOps (P7.4): each op reads and sets what it has; a Call reads as many as its function has parameters.
func TestLiveOps(t *testing.T) {
	for _, c := range []struct {
		line string
		live int // of r0 to r2, ahead of it, where all are live behind it
	}{
		{"set r0 1", 6},
		{"add r0 r0 r1", 7}, {"sub r0 r1 r2", 6}, {"mul r0 r2 r0", 7}, {"div r0 r1 r1", 6}, {"and r1 r2 r0", 5}, {"or r2 r0 r1", 3},
		{"xor r0 r1 r2", 6}, {"shl r0 r1 r2", 6}, {"sar r0 r1 r2", 6}, {"lt r0 r1 r2", 6}, {"eq r0 r1 r2", 6},
		{"load r0 r1", 6}, {"load r1 r1", 7}, {"store r0 r1", 7}, {"if r0 2", 7}, {"jump 2", 7}, {"host r2 r0", 3}, {"host r2 r2", 7},
		{"call r2 1 r2 r2", 3}, {"call r2 2 r2 r1", 7}, {"call r2 2 r1 r2", 3}, {"call r2 3 r1 r2", 7}, {"call r2 3 r2 r1", 7},
	} {
		text := "func 2 3\nset r2 0\n" + c.line + "\nadd r0 r0 r1\nadd r0 r0 r2\nret r0\nfunc 0 1\njump 0\nfunc 1 1\nret r0\nfunc 2 2\nret r0\n"
		wantLive(t, text, 0, []int{c.live &^ 4, c.live, 7, 5, 1})
	}
}

// TestLiveLimits (P7.4): the highest register, all of them, and what comes from the far end of a function, place by place.
func TestLiveLimits(t *testing.T) {
	wantLive(t, "func 0 12\nset r11 0\nret r11\n", 0, []int{0, 1 << 11})
	text, want := "func 0 12\n", []int{}
	for r := range api.MaxRegs {
		text += fmt.Sprintf("set r%d 0\n", r)
		want = append(want, 1<<r-1)
	}
	for r := api.MaxRegs - 1; r > 0; r-- {
		text += fmt.Sprintf("add r0 r0 r%d\n", r)
		want = append(want, 1<<(r+1)-1)
	}
	wantLive(t, text+"ret r0\n", 0, append(want, 1))
	ones := slices.Repeat([]int{1}, api.MaxCode)
	wantLive(t, backwards(), 0, ones)
	wantLive(t, lines("func 1 2\n", "set r1 0\n", "ret r0\n"), 0, ones)
	wantLive(t, lines("func 1 2\nset r1 0\n", "host r0 r0\n", "ret r1\n"), 0, append([]int{1}, append(slices.Repeat([]int{3}, api.MaxCode-2), 2)...))
}

// TestSurelySet (what comes of P7): what is live is surely set, and both are -1 at the same places.
func TestSurelySet(t *testing.T) {
	d := drawn.Die(72)
	for i := range 600 {
		p := drawn.Tangled(&d)
		if i%2 == 0 {
			p = drawn.Right(&d)
		}
		for fn := range p.Funcs {
			live, e := flow.Live(p, fn)
			sure, _ := proof.Sure(p, fn)
			if e != api.OK || len(live) != len(sure) {
				t.Fatalf("Live(%v, %d): %v %v", p, fn, live, e)
			}
			for pc := range live {
				if live[pc]&^sure[pc] != 0 || (live[pc] == -1) != (sure[pc] == -1) {
					t.Errorf("Live(%v, %d): %v, but %v are sure", p, fn, live, sure)
				}
			}
		}
	}
}

// TestNotLive (P7.4): a run comes to the same, whatever the registers hold that are not live.
func TestNotLive(t *testing.T) {
	d := drawn.Die(73)
	changed := 0
	for range 500 {
		p := drawn.Right(&d)
		s, _ := step.Begin(p, drawn.Args(&d, p), []int{3, 1}, 150)
		s, _ = step.Walk(p, s, d.Below(40))
		if s.Status != api.Running {
			continue
		}
		want, _ := step.Walk(p, s, 200)
		f := &s.Frames[len(s.Frames)-1]
		live, _ := flow.Live(p, f.Fn)
		for r := range f.Regs {
			if live[f.Pc]>>r&1 == 0 {
				f.Regs[r] = 77
				changed++
			}
		}
		got, _ := step.Walk(p, s, 200)
		if got.Status != want.Status || got.Value != want.Value || got.Fuel != want.Fuel || got.Memory != want.Memory || !same(got.Events, want.Events) {
			t.Errorf("%v from %v: %v, want %v", p, s, got, want)
		}
	}
	if changed < 500 {
		t.Errorf("only %d registers were changed", changed)
	}
}
