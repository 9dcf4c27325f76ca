package fold_test

import (
	"fmt"
	"math"
	"strings"
	"testing"

	"tierline/api"
	"tierline/told"
)

// TestIf (P9.2): where an If goes, by what is known of its A.
func TestIf(t *testing.T) {
	const parting = "func 1 2\n%s\nif r1 3\nret r0\nret r1\n"
	for _, n := range []int{1, -1, 2, 1 << 32, -1 << 32, math.MaxInt, math.MinInt} {
		wantShort(t, fmt.Sprintf(parting, fmt.Sprint("set r1 ", n)), 0, fmt.Sprint("* ", n, " | 0 2"))
	}
	wantShort(t, fmt.Sprintf(parting, "set r1 0"), 0, "* 0 | 0 1")
	wantShort(t, fmt.Sprintf(parting, "add r1 r0 r0"), 0, "* * | 0 1 2")
	for _, c := range []struct{ text, want string }{
		{"func 1 2\nset r1 0\ndiv r1 r0 r1\nif r1 4\nret r0\nret r1\n", "* 0 . | 0"},
		// Both ways lead to one block.
		{"func 0 1\nset r0 0\nif r0 2\nret r0\n", "0 | 0 1"},
		{"func 0 1\nset r0 9\nif r0 2\nret r0\n", "9 | 0 1"},
		{"func 1 1\nif r0 1\nret r0\n", "* | 0 1"},
		{"func 0 1\nset r0 0\ndiv r0 r0 r0\nif r0 3\nret r0\n", "0 . | 0"},
		// Back to itself, for ever or not at all.
		{"func 0 1\nset r0 1\nif r0 1\nret r0\n", "1 | 0 1"},
		{"func 0 1\nset r0 0\nif r0 1\nret r0\n", "0 | 0 1 2"},
		{"func 0 1\nset r0 4\nif r0 0\nret r0\n", "4 | 0"},
		// Of two known Ifs only the first one's way leads to the second one.
		{"func 0 2\nset r0 0\nset r1 1\nif r0 5\nif r1 6\nret r0\nif r1 4\nret r1\n", "0 1 | 0 1 4"},
	} {
		wantShort(t, c.text, 0, c.want)
	}
}

// TestOn (P9.2): blocks that do not end with an If go to all behind them, though a value of theirs is never made.
func TestOn(t *testing.T) {
	for _, c := range []struct{ text, want string }{
		{told.Still, "* * * | 0"},
		{"func 0 1\njump 0\n", "| 0"},
		{"func 0 1\nset r0 0\ndiv r0 r0 r0\njump 3\nret r0\n", "0 . | 0 1"},
		{"func 0 1\nset r0 0\nhost r0 r0\ncall r0 1 r0 r0\nset r0 3\nif r0 3\nret r0\nfunc 0 1\njump 0\n", "0 * * 3 | 0 1 2"},
		{"func 1 2\nset r1 0\ndiv r1 r0 r1\nstore r1 r1\nif r0 1\nret r0\n", "* 0 0 . | 0 1 2"},
	} {
		wantShort(t, c.text, 0, c.want)
	}
}

// TestLeast (P9.3): what only follows from itself does not hold.
func TestLeast(t *testing.T) {
	const loop = "func 1 3\nset r1 5\nset r2 %d\nif r0 4\nret r1\nadd r1 r1 r2\njump 2\n"
	for _, c := range []struct{ text, want string }{
		{told.Counted, "* 0 -1 * * * * | 0 1 2 3"},
		{told.Nested, "* * 1 1 | 0 1 2"},
		{told.Crossed, "* * * | 0 1 2 3"},
		{fmt.Sprintf(loop, 0), "* 5 0 5 5 | 0 1 2 3"},
		{fmt.Sprintf(loop, 1), "* 5 1 * * | 0 1 2 3"},
		// The block that sets r1 is come to only if r1 was set there.
		{"func 1 2\nset r1 0\nif r1 4\nif r0 1\nret r1\nset r1 1\njump 1\n", "* 0 0 . | 0 1 2 3"},
		{"func 1 2\nset r1 2\nif r1 4\nif r0 1\nret r1\nset r1 1\njump 1\n", "* 2 * 1 | 0 1 2 3 4"},
		// Two registers that keep each other as they are.
		{"func 1 4\nset r1 1\nset r2 1\nset r3 1\nmul r3 r1 r2\nmul r1 r2 r3\nmul r2 r3 r1\nif r0 3\nret r2\n", "* 1 1 1 1 1 1 1 1 | 0 1 2"},
		// What a round makes is never made, so that round is not come behind.
		{"func 1 3\nset r1 0\nset r2 7\nif r0 5\nstore r2 r2\nret r2\ndiv r2 r2 r1\nif r2 2\nret r0\n", "* 0 7 7 . | 0 1 2 3"},
	} {
		wantShort(t, c.text, 0, c.want)
	}
}

// TestFunctions (P9.3): each function for itself, up to the last one that may be.
func TestFunctions(t *testing.T) {
	text := "func 0 1\ncall r0 3 r0 r0\nret r0\nfunc 0 1\nset r0 4\nret r0\nfunc 1 1\nif r0 0\nret r0\nfunc 0 1\nset r0 1\nif r0 0\nret r0\n"
	for fn, want := range []string{"* | 0 1", "4 | 0", "* | 0 1", "1 | 0"} {
		wantShort(t, text, fn, want)
	}
}

// TestRounds (P9.3): a function of as many places as may be, whose blocks are done from its end to its beginning, so that what is known of one hangs on all later ones.
func TestRounds(t *testing.T) {
	for _, c := range []struct{ first, one, other string }{
		{"func 0 1\nset r0 1\n", "1", "%d"},
		{"func 1 1\nadd r0 r0 r0\n", "* *", "*"},
		{"func 0 1\nset r0 0\n", "0", "0"},
	} {
		text, facts, met := c.first+"jump 38\n", c.one, []string{"0"}
		for i := range 19 {
			text += "add r0 r0 r0\n"
			if i == 0 {
				text += "ret r0\n"
			} else {
				text += fmt.Sprintf("jump %d\n", 2*i)
			}
			facts += " " + strings.Replace(c.other, "%d", fmt.Sprint(1<<(19-i)), 1)
			met = append(met, fmt.Sprint(i+1))
		}
		if n := strings.Count(text, "\n") - 1; n != api.MaxCode {
			t.Fatalf("%d places", n)
		}
		wantShort(t, text, 0, facts+" | "+strings.Join(met, " "))
	}
}

// TestWoven (P9.1 to P9.3): all registers live in as many blocks as there is room for.
func TestWoven(t *testing.T) {
	for _, to := range []func(i, ifs int) int{
		func(i, ifs int) int { return i },
		func(i, ifs int) int { return 0 },
		func(i, ifs int) int { return ifs },
		func(i, ifs int) int { return ifs - i },
		func(i, ifs int) int { return min(i+[]int{2, 1, -1}[i%3], ifs) },
	} {
		wantTold(t, told.Text(t, told.Woven(to)), 0)
	}
}
