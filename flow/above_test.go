package flow_test

import (
	"slices"
	"strings"
	"testing"

	"tierline/api"
	"tierline/flow"
	"tierline/told"
)

func wantAbove(t *testing.T, text string, fn int, want []int) {
	t.Helper()
	if l, e := flow.Above(told.Text(t, text), fn); e != api.OK || !slices.Equal(l, want) {
		t.Errorf("Above(%q, %d): %v %v, want %v", text, fn, l, e, want)
	}
}

// TestAbove (P7.3): the nearest block that stands on each way.
func TestAbove(t *testing.T) {
	for _, c := range []struct {
		text string
		want []int
	}{
		{counted, []int{-1, 0, 1, 1}},
		{diamond, []int{-1, 0, 0, 0}},
		{nested, []int{-1, 0, 1, 2, 3}},
		{crossed, []int{-1, 0, 0, 2}},
		{still, []int{-1}},
		// The first block has none, also where others lead to it.
		{"func 0 1\njump 0\n", []int{-1}},
		{"func 1 1\nif r0 0\njump 0\n", []int{-1, 0}},
		// Both ways of an If lead to one block.
		{"func 1 1\nif r0 1\nret r0\n", []int{-1, 0}},
		// The nearest one may stand further on in the list.
		{"func 1 1\njump 3\nret r0\nset r0 0\nif r0 1\njump 1\n", []int{-1, 2, 0, 2}},
		{"func 1 1\njump 3\nret r0\njump 1\njump 2\n", []int{-1, 2, 3, 0}},
		// A way that goes round takes nothing away from those that stand ahead of it.
		{"func 1 1\nhost r0 r0\nif r0 4\nhost r0 r0\njump 1\nhost r0 r0\nret r0\n", []int{-1, 0, 1, 2, 1, 4}},
		// A diamond in a diamond: the inner ways come together in a block of their own.
		{"func 1 1\nif r0 6\nif r0 4\nhost r0 r0\njump 5\nhost r0 r0\njump 7\nhost r0 r0\nret r0\n", []int{-1, 0, 1, 2, 1, 1, 0, 0}},
		// Ways into the middle: neither of the two that lead to one another stands above.
		{"func 1 1\nif r0 4\nhost r0 r0\nif r0 4\nret r0\nhost r0 r0\njump 2\n", []int{-1, 0, 0, 2, 0, 4}},
		// Unreached instructions lead nowhere.
		{"func 1 1\nif r0 3\nhost r0 r0\njump 5\njump 5\njump 1\nret r0\n", []int{-1, 0, 1, 0, 0}},
	} {
		wantAbove(t, c.text, 0, c.want)
	}
	text := strings.Repeat(still, api.MaxFuncs-1) + crossed
	wantAbove(t, text, api.MaxFuncs-1, []int{-1, 0, 0, 2})
	wantAbove(t, text, api.MaxFuncs-2, []int{-1})
}

// behindOneAnother: for each of MaxCode blocks the one ahead of it.
func behindOneAnother() []int {
	l := make([]int, api.MaxCode)
	for b := range l {
		l[b] = b - 1
	}
	return l
}

// TestAboveLimits (P7.3): as many blocks as there may be, in a row, in one that goes back, and with ways across.
func TestAboveLimits(t *testing.T) {
	row := behindOneAnother()
	wantAbove(t, lines("func 1 1\n", "host r0 r0\n", "ret r0\n"), 0, row)
	wantAbove(t, ladder(func(int) int { return 0 }), 0, row)
	wantAbove(t, ladder(func(pc int) int { return pc }), 0, row)
	wantAbove(t, ladder(func(pc int) int { return max(0, pc-1) }), 0, row)
	toLast := slices.Clone(row)
	toLast[api.MaxCode-1] = 0
	wantAbove(t, ladder(func(int) int { return api.MaxCode - 1 }), 0, toLast)
	// Each leads to the next two, so that the first one alone stands on each way.
	skip := make([]int, api.MaxCode)
	skip[0] = -1
	wantAbove(t, ladder(func(pc int) int { return min(pc+2, api.MaxCode-1) }), 0, skip)
	back := behindOneAnother()
	for b := 1; b < api.MaxCode; b++ {
		back[b] = b + 1
	}
	back[api.MaxCode-1] = 0
	wantAbove(t, backwards(), 0, back)
}
