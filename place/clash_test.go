package place_test

import (
	"fmt"
	"strings"
	"testing"

	"tierline/api"
	"tierline/told"
)

// TestAhead (P10.1): what live registers are ahead of one instruction clashes.
func TestAhead(t *testing.T) {
	for _, c := range []struct{ text, want string }{
		{told.Counted, "[[1 2] [0 2] [0 1 3 4 5 6] [2 4 5] [2 3] [2 3 6] [2 5]]"},
		{told.Diamond, "[[] [] [] []]"},
		{told.Nested, "[[] [] [3] [2]]"},
		{told.Crossed, "[[] [] []]"},
		{told.Still, "[[1] [0 2] [1]]"},
		// Parameters that are read both, one of them, and none; no value at all.
		{"func 2 2\nstore r0 r1\nret r0\n", "[[1] [0]]"},
		{"func 2 2\nret r1\n", "[[] []]"},
		{"func 2 2\njump 0\n", "[[] []]"},
		{"func 0 1\njump 0\n", "[]"},
		// Read for the last time by what makes another: these do not clash, nor do values of one register.
		{"func 1 2\nadd r1 r0 r0\nret r1\n", "[[] []]"},
		{"func 1 1\nadd r0 r0 r0\nmul r0 r0 r0\nret r0\n", "[[] [] []]"},
		{"func 2 2\nadd r0 r0 r1\nret r0\n", "[[1] [0] []]"},
		// Live on one way alone.
		{"func 2 2\nif r0 2\nret r0\nret r1\n", "[[1] [0]]"},
		// A phi stands ahead of the block's first instruction, its Args do not.
		{"func 2 3\nset r2 4\nif r0 4\nset r1 7\nset r2 8\nadd r1 r1 r2\nret r1\n", "[[1 2] [0 2] [0 1] [4] [3] [6] [5] []]"},
		// What is not reached reads nothing.
		{"func 2 2\nret r0\nadd r0 r0 r1\nret r1\n", "[[] []]"},
		{"func 2 3\njump 2\nset r2 1\nret r0\n", "[[] []]"},
		// A block whose values have lower numbers than those that it reads.
		{"func 1 2\njump 3\nadd r0 r0 r1\nret r0\nset r1 5\njump 1\n", "[[2] [] [0]]"},
	} {
		wantClash(t, c.text, 0, c.want)
	}
}

// TestBehind (P10.1): what an instruction makes clashes with what others are behind it that are live there.
func TestBehind(t *testing.T) {
	for _, c := range []struct{ text, want string }{
		// Nobody reads what is made.
		{"func 1 2\nset r1 5\nret r0\n", "[[1] [0]]"},
		{"func 2 2\nset r1 5\nset r1 6\nstore r0 r1\nret r0\n", "[[2 3] [] [0] [0]]"},
		{"func 2 2\nadd r0 r0 r1\nret r1\n", "[[1] [0 2] [1]]"},
		{"func 2 3\nset r2 5\njump 0\n", "[[] [] []]"},
		{"func 0 3\nset r0 1\nset r1 2\nset r2 3\nret r0\n", "[[1 2] [0] [0]]"},
		// At a block's end: a Host, and a Call.
		{"func 1 2\nhost r1 r0\nret r0\n", "[[1] [0]]"},
		{"func 1 2\nhost r1 r0\nret r1\n", "[[] []]"},
		{"func 2 3\ncall r2 0 r0 r1\nret r0\n", "[[1 2] [0] [0]]"},
		// Ahead of a block with phis others are still what they were: 4 clashes with 3, which comes to a phi, not with that one; so it is where nobody reads what is made.
		{"func 2 3\nset r2 4\nif r0 4\nset r1 7\nset r2 8\nstore r1 r2\njump 4\n", "[[1 2] [0 2] [0 1] [4] [3] [6] [5]]"},
		{"func 2 3\nif r0 3\nset r1 7\nset r2 8\nret r1\n", "[[1] [0] [3] [2] []]"},
		{"func 2 3\nif r0 3\nset r1 7\nhost r2 r1\nret r1\n", "[[1] [0] [3] [2] []]"},
		// In the next round.
		{"func 1 2\nset r1 0\nif r0 1\nret r1\n", "[[1] [0]]"},
		{"func 1 2\nhost r1 r0\nif r1 0\nret r0\n", "[[1] [0]]"},
	} {
		wantClash(t, c.text, 0, c.want)
	}
}

// TestBeginning (P10.1): parameters that only come to phis of the first block stand ahead of no instruction.
func TestBeginning(t *testing.T) {
	wantClash(t, "func 2 2\nadd r0 r0 r1\nsub r1 r1 r0\nif r0 0\nret r1\n", 0, "[[] [] [3] [2 4] [3 5] [4]]")
	wantClash(t, "func 2 2\nadd r0 r0 r1\nif r0 0\nret r1\n", 0, "[[] [2 3] [1] [1]]")
	wantClash(t, "func 2 2\nif r0 0\nret r1\n", 0, "[[1] [0]]")
}

// TestOps (P10.1): each op that sets a register makes a value, which clashes with what is live behind it, and what an op reads is live ahead of it.
func TestOps(t *testing.T) {
	for _, c := range []struct{ line, want string }{
		{"set r3 1", "[[2 3] [] [0 3] [0 2]]"},
		{"add r3 r1 r2", "[[1 2 3] [0 2] [0 1 3] [0 2]]"}, {"sub r3 r1 r0", "[[1 2 3] [0 2] [0 1 3] [0 2]]"}, {"mul r3 r0 r1", "[[1 2 3] [0 2] [0 1 3] [0 2]]"},
		{"div r3 r1 r1", "[[1 2 3] [0 2] [0 1 3] [0 2]]"}, {"and r3 r1 r2", "[[1 2 3] [0 2] [0 1 3] [0 2]]"}, {"or r3 r2 r1", "[[1 2 3] [0 2] [0 1 3] [0 2]]"},
		{"xor r3 r1 r2", "[[1 2 3] [0 2] [0 1 3] [0 2]]"}, {"shl r3 r1 r2", "[[1 2 3] [0 2] [0 1 3] [0 2]]"}, {"sar r3 r1 r2", "[[1 2 3] [0 2] [0 1 3] [0 2]]"},
		{"lt r3 r1 r2", "[[1 2 3] [0 2] [0 1 3] [0 2]]"}, {"eq r3 r0 r2", "[[2 3] [] [0 3] [0 2]]"},
		{"load r3 r1", "[[1 2 3] [0 2] [0 1 3] [0 2]]"}, {"host r3 r1", "[[1 2 3] [0 2] [0 1 3] [0 2]]"}, {"host r1 r1", "[[1 2 3] [0 2] [0 1 3] [0 2]]"},
		{"store r0 r1", "[[1 2] [0 2] [0 1]]"}, {"jump 2", "[[2] [] [0]]"}, {"if r1 2", "[[1 2] [0 2] [0 1]]"}, {"ret r1", "[[] [2] [1]]"},
		{"call r3 1 r1 r1", "[[2 3] [] [0 3] [0 2]]"}, {"call r3 2 r1 r1", "[[1 2 3] [0 2] [0 1 3] [0 2]]"}, {"call r3 2 r0 r1", "[[2 3] [] [0 3] [0 2]]"},
		{"call r3 3 r0 r1", "[[1 2 3] [0 2] [0 1 3] [0 2]]"},
		// It takes the room of a register that was live ahead of it, or of one that is live behind it.
		{"add r0 r1 r2", "[[] [2] [1 3] [2]]"}, {"add r2 r1 r2", "[[1 2 3] [0 2] [0 1] [0]]"}, {"set r2 1", "[[2 3] [] [0] [0]]"},
	} {
		text := "func 2 4\nset r2 1\n" + c.line + "\nstore r0 r2\nret r0\nfunc 0 1\njump 0\nfunc 1 1\nret r0\nfunc 2 2\nret r0\n"
		wantClash(t, text, 0, c.want)
	}
}

// TestFunctions (P10.1, P10.2): each function for itself, up to the last one that may be.
func TestFunctions(t *testing.T) {
	text := told.Still + "func 0 1\njump 0\n" + told.Diamond + told.Nested
	for fn, want := range []string{"[[1] [0 2] [1]]", "[]", "[[] [] [] []]", "[[] [] [3] [2]]"} {
		wantClash(t, text, fn, want)
	}
}

// TestClashLimits (P10.1, P10.2): all registers and places.
func TestClashLimits(t *testing.T) {
	// The value 0 clashes with all others, these with nothing else.
	want := "[1"
	for n := 2; n < api.MaxCode; n++ {
		want += fmt.Sprint(" ", n)
	}
	wantClash(t, "func 1 12\n"+strings.Repeat("set r11 5\n", api.MaxCode-1)+"ret r0\n", 0, "["+want+"]"+strings.Repeat(" [0]", api.MaxCode-1)+"]")
	wantClash(t, "func 1 12\n"+strings.Repeat("set r11 5\n", api.MaxCode-1)+"ret r11\n", 0, "[[]"+strings.Repeat(" []", api.MaxCode-1)+"]")
	// All twelve clash with each other.
	all := make([][]int, api.MaxRegs)
	for one := range all {
		for other := range api.MaxRegs {
			if one != other {
				all[one] = append(all[one], other)
			}
		}
	}
	wantClash(t, told.Woven(func(i, ifs int) int { return i }), 0, fmt.Sprint(all))
	wantClash(t, told.Woven(func(i, ifs int) int { return ifs }), 0, fmt.Sprint(all))
	// As many phis as may be had with that.
	p := told.Text(t, told.Woven(func(i, ifs int) int { return min(i+[]int{2, 1, -1}[i%3], ifs) }))
	if clashes, _ := wantTold(t, p, 0); len(clashes) != api.MaxRegs*15 {
		t.Errorf("%d values", len(clashes))
	}
}
