package fold_test

import (
	"fmt"
	"math"
	"testing"

	"tierline/api"
	"tierline/fold"
	"tierline/step"
	"tierline/told"
)

// TestMade (P9.1): what instructions make of values that are known, of others, and of such as are never made.
func TestMade(t *testing.T) {
	for _, c := range []struct{ text, want string }{
		{"func 2 2\nret r1\n", "* * | 0"},
		{"func 0 1\nset r0 -7\nret r0\n", "-7 | 0"},
		{"func 0 2\nset r0 6\nset r1 4\nstore r1 r0\nsub r0 r0 r1\nmul r1 r1 r0\nret r1\n", "6 4 2 8 | 0"},
		// Many, whatever the other one is, and whatever it would come to.
		{"func 1 2\nset r1 0\nand r1 r0 r1\nset r1 0\nmul r1 r1 r0\nsub r1 r0 r0\neq r1 r0 r0\nret r1\n", "* 0 * 0 * * * | 0"},
		{"func 1 2\nset r1 0\ndiv r1 r1 r0\ndiv r1 r0 r1\nset r1 2\ndiv r1 r0 r1\nret r1\n", "* 0 * * 2 * | 0"},
		// Nothing is made by 0, nor of what is never made.
		{"func 0 2\nset r0 0\nset r1 5\ndiv r1 r1 r0\nadd r0 r0 r1\nret r0\n", "0 5 . . | 0"},
		{"func 1 2\nset r1 0\ndiv r1 r0 r1\nadd r1 r0 r1\nadd r1 r1 r0\ndiv r1 r1 r0\ndiv r1 r0 r1\nret r1\n", "* 0 . . . . . | 0"},
		{"func 0 2\nset r0 0\nset r1 5\ndiv r0 r0 r1\ndiv r1 r1 r0\nret r1\n", "0 5 0 . | 0"},
	} {
		wantShort(t, c.text, 0, c.want)
	}
}

// TestMany (P9.1): what a Load, a Call or a Host makes, of known values or of none; a Call reads only what its function has parameters for.
func TestMany(t *testing.T) {
	const others = "func 0 1\nset r0 0\nret r0\nfunc 1 1\nret r0\nfunc 2 2\nret r0\n"
	wantShort(t, "func 0 3\nset r0 2\nload r1 r0\nhost r2 r0\ncall r2 1 r0 r0\ncall r2 2 r0 r0\ncall r2 3 r0 r0\nret r2\n"+others, 0, "2 * * * * * | 0 1 2 3 4")
	never := "func 0 3\nset r0 0\ndiv r1 r0 r0\ncall r2 1 r1 r1\ncall r2 2 r0 r1\ncall r2 2 r1 r0\ncall r2 3 r0 r1\ncall r2 3 r1 r0\nload r2 r1\nhost r2 r1\ncall r2 3 r0 r0\nret r2\n"
	wantShort(t, never+others, 0, "0 . * * . . . . . * | 0 1 2 3 4 5 6 7")
}

// TestOps (P9.1): what ops make of known numbers at their limits is what Make makes.
func TestOps(t *testing.T) {
	numbers := []int{0, 1, -1, 2, -7, 63, 64, 65, 1 << 32, math.MaxInt, math.MinInt}
	for op := api.Set; op <= api.Eq; op++ {
		for _, a := range numbers {
			for _, b := range numbers {
				x := api.Instr{Op: op, Dst: 0, A: 0, B: 1}
				if op == api.Set {
					x = api.Instr{Op: op, Imm: a ^ b}
				}
				p := api.Program{Funcs: []api.Func{{Regs: 2, Code: []api.Instr{{Op: api.Set, Imm: a}, {Op: api.Set, Dst: 1, Imm: b}, x, {Op: api.Ret}}}}}
				want := fmt.Sprint(a, b, " .")
				if value, e := step.Make(op, a, b, x.Imm); e == api.OK {
					want = fmt.Sprint(a, b, value)
				}
				facts, met, e := fold.Facts(p, 0)
				if got := short(holding{facts, met}); e != api.OK || got != want+" | 0" {
					t.Errorf("op %d: %s %v, want %s", op, got, e, want)
				}
			}
		}
	}
}

// TestPhis (P9.1): what comes from met blocks that go there counts, and of it what is made at all.
func TestPhis(t *testing.T) {
	const parting = "func 1 3\nset r1 0\nif r0 4\n%s\njump 5\n%s\nret r2\n"
	for _, c := range []struct{ one, other, want string }{
		{"set r2 5", "set r2 5", "* 0 5 5 5"},
		{"set r2 5", "set r2 6", "* 0 5 6 *"},
		{"set r2 0", "set r2 5", "* 0 0 5 *"},
		{"set r2 5", "load r2 r0", "* 0 5 * *"},
		{"add r2 r0 r0", "set r2 0", "* 0 * 0 *"},
		{"add r2 r0 r0", "load r2 r0", "* 0 * * *"},
		{"div r2 r0 r1", "set r2 5", "* 0 . 5 5"},
		{"set r2 0", "div r2 r0 r1", "* 0 0 . 0"},
		{"div r2 r0 r1", "load r2 r0", "* 0 . * *"},
		{"div r2 r0 r1", "div r2 r1 r1", "* 0 . . ."},
	} {
		wantShort(t, fmt.Sprintf(parting, c.one, c.other), 0, c.want+" | 0 1 2 3")
	}
	for _, c := range []struct{ text, want string }{
		{told.Diamond, "* 1 2 * | 0 1 2 3"},
		// A block that is not met, and one that is and goes elsewhere.
		{"func 0 2\nset r0 1\nif r0 4\nset r1 5\njump 5\nset r1 6\nret r1\n", "1 . 6 6 | 0 2 3"},
		{"func 0 2\nset r0 0\nif r0 4\nset r1 5\njump 5\nset r1 6\nret r1\n", "0 5 . 5 | 0 1 3"},
		{"func 0 2\nset r1 0\nif r1 4\nset r1 7\njump 4\nret r1\n", "0 7 7 | 0 1 2"},
		{"func 1 2\nset r1 3\nif r1 4\nset r1 7\njump 4\nret r1\n", "* 3 . 3 | 0 2"},
		// Three come, of which two are the same.
		{"func 2 3\nset r2 4\nif r0 7\nset r2 4\nif r1 7\nset r2 5\njump 7\nret r2\nret r2\n", "* * 4 4 5 * | 0 1 2 3"},
		{"func 2 3\nset r2 4\nif r0 7\nset r2 4\nif r1 7\nset r2 4\njump 7\nret r2\nret r2\n", "* * 4 4 4 4 | 0 1 2 3"},
	} {
		wantShort(t, c.text, 0, c.want)
	}
}

// TestBeginning (P9.1): from the function's beginning comes the parameter, whether anything leads back there or not.
func TestBeginning(t *testing.T) {
	wantShort(t, "func 2 2\nstore r0 r0\nset r0 4\nif r1 0\nret r0\n", 0, "* * * 4 | 0 1")
	wantShort(t, "func 1 1\nstore r0 r0\nset r0 0\nif r0 0\nret r0\n", 0, "* * 0 | 0 1")
	wantShort(t, "func 1 1\nstore r0 r0\nset r0 1\nif r0 0\nret r0\n", 0, "* * 1 | 0")
	wantShort(t, "func 1 2\nset r1 3\nsub r0 r0 r1\nif r0 0\nret r0\n", 0, "* * 3 * | 0 1")
}
