package flow_test

import (
	"fmt"
	"strings"
	"testing"

	"tierline/api"
	"tierline/flow"
	"tierline/told"
)

func wantLoops(t *testing.T, text string, fn int, want [][]int) {
	t.Helper()
	if l, e := flow.Loops(told.Text(t, text), fn); e != api.OK || !same(l, want) {
		t.Errorf("Loops(%q, %d): %v %v, want %v", text, fn, l, e, want)
	}
}

// TestLoops (P7.5): heads, and what belongs to them.
func TestLoops(t *testing.T) {
	for _, c := range []struct {
		text string
		want [][]int
	}{
		{counted, [][]int{{1, 3}}},
		{diamond, nil},
		{nested, [][]int{{2}, {1, 2, 3}}},
		{still, nil},
		// Neither of two blocks that lead to one another stands on each way to the other.
		{crossed, nil},
		// A block that leads to itself; to itself and to another head, lower or higher.
		{"func 0 1\njump 0\n", [][]int{{0}}},
		{"func 1 1\nset r0 1\njump 1\n", [][]int{{1}}},
		{"func 1 1\nif r0 0\njump 0\n", [][]int{{0}, {0, 1}}},
		{"func 1 1\nhost r0 r0\nif r0 0\njump 1\n", [][]int{{0, 1, 2}, {1, 2}}},
		{"func 1 1\nif r0 0\nif r0 0\nret r0\n", [][]int{{0}, {0, 1}}},
		// An If whose ways both lead back to one place: one loop.
		{"func 1 1\njump 2\nif r0 2\nif r0 1\nret r0\n", [][]int{{2, 1}}},
		// Two blocks lead back to one head: a loop each.
		{"func 1 1\nhost r0 r0\nif r0 4\nhost r0 r0\njump 1\njump 1\n", [][]int{{1, 2, 3}, {1, 4}}},
		// A head that stands further on in the list than what belongs to it: it is told first all the same, in a loop in a loop, too.
		{"func 1 1\njump 4\nhost r0 r0\njump 4\nret r0\nif r0 1\njump 3\n", [][]int{{4, 1, 2}}},
		{"func 1 1\njump 3\njump 3\njump 1\nif r0 2\nret r0\n", [][]int{{3, 1, 2}}},
		{"func 1 1\njump 2\njump 3\nif r0 1\nif r0 2\njump 3\n", [][]int{{2, 1, 3, 4}, {3, 4}}},
		// What leads out of a loop does not belong to it, but a diamond within does.
		{"func 1 1\nif r0 3\nhost r0 r0\njump 4\nhost r0 r0\nif r0 0\nret r0\n", [][]int{{0, 1, 2, 3, 4}}},
		{"func 1 1\nif r0 3\nif r0 0\njump 4\nret r0\nret r0\n", [][]int{{0, 1}}},
		// A round that may be entered at two blocks, within a loop: it has no head of its own.
		{"func 1 1\nif r0 3\nhost r0 r0\nif r0 3\nif r0 2\njump 0\n", [][]int{{0, 1, 2, 3, 4}}},
		// Unreached ones lead nowhere.
		{"func 1 1\nhost r0 r0\nret r0\njump 0\n", nil},
	} {
		wantLoops(t, c.text, 0, c.want)
	}
	text := strings.Repeat(still, api.MaxFuncs-1) + nested
	wantLoops(t, text, api.MaxFuncs-1, [][]int{{2}, {1, 2, 3}})
	wantLoops(t, text, api.MaxFuncs-2, nil)
}

// TestLoopsLimits (P7.5): as many blocks and loops as there may be.
func TestLoopsLimits(t *testing.T) {
	wantLoops(t, lines("func 1 1\n", "host r0 r0\n", "ret r0\n"), 0, nil)
	wantLoops(t, ladder(func(int) int { return api.MaxCode - 1 }), 0, nil)
	wantLoops(t, backwards(), 0, nil)
	var own, first, ahead [][]int
	for b := range api.MaxCode - 1 {
		own = append(own, []int{b})
		first = append(first, row(0, b))
		ahead = append(ahead, row(b-1, api.MaxCode-2))
	}
	ahead[0] = []int{0}
	wantLoops(t, ladder(func(pc int) int { return pc }), 0, own)
	wantLoops(t, ladder(func(int) int { return 0 }), 0, first)
	wantLoops(t, ladder(func(pc int) int { return max(0, pc-1) }), 0, ahead)
	wantLoops(t, lines("func 1 1\n", "host r0 r0\n", "jump 0\n"), 0, [][]int{row(0, api.MaxCode-1)})
	wantLoops(t, lines("func 1 1\n", "host r0 r0\n", "if r0 38\njump 39\n"), 0, [][]int{{38}, {39}})
}

// row of numbers, from one to another.
func row(from, to int) []int {
	var l []int
	for n := from; n <= to; n++ {
		l = append(l, n)
	}
	return l
}

// backwards: a function whose ways go from the last place to the lower ones, one by one.
func backwards() string {
	s := fmt.Sprintf("func 1 1\njump %d\nret r0\n", api.MaxCode-1)
	for pc := 2; pc < api.MaxCode; pc++ {
		s += fmt.Sprintf("jump %d\n", pc-1)
	}
	return s
}
