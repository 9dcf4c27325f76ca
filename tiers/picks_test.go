package tiers_test

import (
	"slices"
	"strings"
	"testing"

	"tierline/api"
	"tierline/told"
)

// wantPicks: how often machine code is entered in a run, how many steps it does, and what is kept then.
func wantPicks(t *testing.T, text string, arg, fuel int, picks string, natives, walked int, kept ...int) {
	t.Helper()
	p := told.Text(t, text)
	o, _ := wantRun(t, p, []int{arg}[:p.Funcs[0].Params], []int{4, 2}, fuel, picked(picks))
	if o.Natives != natives || o.Walked != walked || !slices.Equal(o.Kept, kept) {
		t.Errorf("%q %d with %d, %s: %d %d %v, want %d %d %v", text, arg, fuel, picks, o.Natives, o.Walked, o.Kept, natives, walked, kept)
	}
}

// TestKept (P14.2): what Compile, Drop and Clear keep. In turns the function 1 runs behind 2 steps and behind 8, the function 2 behind 5.
func TestKept(t *testing.T) {
	for _, c := range []struct {
		picks string
		kept  []int
	}{
		{"", nil},
		{"c", []int{0}},
		{"sc", []int{0}},
		{"ssc", []int{1}},
		{"sssssc", []int{2}},
		{"c ss c", []int{0, 1}},
		{"ss c ss c", []int{1, 0}},
		// Again: it stays as old as it is.
		{"ccc", []int{0}},
		{"c ss c ss c", []int{0, 1}},
		{"c ss c ss c s c", []int{1, 2}},
		// More than may be kept: the oldest one goes.
		{"c ss c sss c", []int{1, 2}},
		{"c ss c sss c ss c", []int{2, 0}},
		{"c ss c sss c ss c s c", []int{0, 1}},
		{"c ss c sss c ss ccc", []int{2, 0}},
		// The oldest one, if there is one.
		{"d", nil},
		{"ddd c", []int{0}},
		{"cd", nil},
		{"cdd c", []int{0}},
		{"c ss c d", []int{1}},
		{"c ss c dd", nil},
		{"c ss c ddd", nil},
		{"c ss c d ss c", []int{1, 0}},
		{"c ss c d sss c", []int{1, 2}},
		{"c ss c sss c d", []int{2}},
		// All.
		{"x", nil},
		{"cx", nil},
		{"c ss c x", nil},
		{"c ss c x c", []int{1}},
		{"c ss c xx ss c s c", []int{0, 2}},
		{"x c x c", []int{0}},
	} {
		wantPicks(t, turns, 3, 50, c.picks, 0, 0, c.kept...)
	}
}

// TestNative (P14.2): machine code is entered if the function is kept, and a block begins at its place; it goes as far as it goes.
func TestNative(t *testing.T) {
	for _, c := range []struct {
		picks           string
		natives, walked int
		kept            []int
	}{
		{"n", 0, 0, nil},
		{"nnn c", 0, 0, []int{0}},
		{"cn", 1, 1, []int{0}},
		// Ahead of the Call, where no block begins.
		{"cnn", 1, 1, []int{0}},
		{"csn", 0, 0, []int{0}},
		// In another function, which is not kept, and then is.
		{"cn s n", 1, 1, []int{0}},
		{"cn s cn", 2, 2, []int{0, 1}},
		{"ss cn", 1, 1, []int{1}},
		// Back in the first one, where a block begins with a Call: it is entered, and leaves there.
		{"c ssss n", 1, 0, []int{0}},
		{"c ssss nnn", 3, 0, []int{0}},
		{"ss c ss n", 0, 0, []int{1}},
		// Kept no more.
		{"cdn", 0, 0, nil},
		{"cxn", 0, 0, nil},
		{"cdcn", 1, 1, []int{0}},
		{"cndn", 1, 1, nil},
		{"c ss c d n", 1, 1, []int{1}},
		{"c ss c dd n", 0, 0, nil},
		{"c ss c sss c ss n", 0, 0, []int{1, 2}},
		{"c ss c sss c n s n", 1, 1, []int{1, 2}},
		{"c ss c sss c n s n s n s n", 2, 2, []int{1, 2}},
	} {
		wantPicks(t, turns, 3, 50, c.picks, c.natives, c.walked, c.kept...)
	}
}

// TestFar (P14.2): loops, what byte code has to do, and what cannot be done.
func TestFar(t *testing.T) {
	for _, c := range []struct {
		text            string
		arg, fuel       int
		picks           string
		natives, walked int
	}{
		{told.Counted, 10, 100, "cn", 1, 43},
		{told.Counted, 10, 43, "cn", 1, 43},
		{told.Counted, 10, 42, "cn", 1, 42},
		{told.Counted, 10, 41, "cn", 1, 39},
		{told.Counted, 10, 100, "cs n", 0, 0},
		{told.Counted, 10, 100, "css n", 1, 41},
		{told.Counted, 10, 100, "csss n", 1, 40},
		{told.Counted, 10, 100, "cssss n", 0, 0},
		{told.Counted, 10, 100, "css nn", 2, 41},
		{told.Counted, 0, 100, "cn", 1, 3},
		{told.Counted, -1, api.MaxFuel, "cn", 1, 9999},
		{factorial, 3, 100, "c" + strings.Repeat("ns", 20), 7, 14},
		{asking, 7, 100, "c n s n s n", 3, 6},
		{asking, 7, 100, "c n s n s s n", 2, 3},
		// Without fuel, and with too little.
		{told.Counted, 10, 0, "c nnn", 3, 0},
		{told.Counted, 10, 1, "c nnn", 3, 0},
		{told.Counted, 10, 2, "c nnn", 3, 2},
		{told.Counted, 10, 0, "c n s n", 1, 0},
		// It leaves ahead of what cannot be done, and byte code ends the run.
		{divided, 0, 9, "c nn", 2, 0},
		{divided, 0, 9, "c n s n", 1, 0},
		{divided, 5, 9, "c nn", 1, 1},
		{stored, 16, 9, "c n s n", 1, 0},
		{stored, -1, 9, "c n s n", 1, 0},
		{stored, 15, 9, "c nn", 1, 2},
		{endless, 1, 99, "c" + strings.Repeat("ns", 20), 8, 0},
	} {
		wantPicks(t, c.text, c.arg, c.fuel, c.picks, c.natives, c.walked, 0)
	}
}

// TestBehindTheEnd (P14.2): picks say nothing when the run is not Running any more, whatever ended it; and something as long as it is.
func TestBehindTheEnd(t *testing.T) {
	for _, c := range []struct {
		text      string
		arg, fuel int
		steps     int
	}{
		{turns, 3, 50, 11},
		{turns, 3, 5, 6},
		{told.Counted, 10, 0, 1},
		{divided, 0, 9, 1},
		{stored, 16, 9, 1},
		{endless, 1, 99, 8},
	} {
		s := strings.Repeat("s", c.steps-1)
		for _, picks := range []string{"d", "x", "xn", "dddd"} {
			wantPicks(t, c.text, c.arg, c.fuel, "c"+s+"s"+picks, 0, 0, 0)
			wantPicks(t, c.text, c.arg, c.fuel, "c"+s+picks, 0, 0)
		}
		wantPicks(t, c.text, c.arg, c.fuel, s+"sc", 0, 0)
		wantPicks(t, c.text, c.arg, c.fuel, s+"s"+s+"sccnn", 0, 0)
	}
}
