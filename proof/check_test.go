package proof_test

import (
	"fmt"
	"slices"
	"strings"
	"testing"

	"tierline/api"
	"tierline/code"
	"tierline/drawn"
	"tierline/proof"
	"tierline/told"
)

func wantCheck(t *testing.T, s string, want api.Errno) {
	t.Helper()
	if e := proof.Check(told.Text(t, s)); e != want {
		t.Errorf("Check(%q): %v, want %v", s, e, want)
	}
}

// TestRight (P3.3): programs that are right.
func TestRight(t *testing.T) {
	for _, s := range []string{
		"func 1 3\nset r1 0\nset r2 -1\nif r0 4\nret r1\nadd r1 r1 r0\nadd r0 r0 r2\njump 2\n",
		"func 1 1\nret r0\n",
		"func 2 2\nret r1\n",
		"func 0 1\nset r0 0\nret r0\n",
		"func 0 1\njump 0\n",
		"func 0 12\njump 0\nret r11\n",
		// What is not reached may read what it will, and lead to the end.
		"func 1 3\nret r0\nadd r0 r1 r2\n",
		"func 1 2\nif r0 3\nret r0\nret r1\nret r0\n",
		"func 1 1\njump 0\nif r0 0\n",
		"func 1 2\nret r0\nset r1 0\n",
		// Set on both ways, by other instructions.
		"func 1 2\nif r0 3\nset r1 0\njump 4\nhost r1 r0\nret r1\n",
		// Set in a first round, and read in each.
		"func 1 2\nset r1 0\nadd r1 r1 r0\nif r1 1\nret r1\n",
		// An If whose ways go to one place, and one that ends with no way to the end.
		"func 1 1\nif r0 1\nret r0\n",
		"func 1 1\nif r0 0\njump 0\n",
		strings.Repeat("func 1 1\nret r0\n", api.MaxFuncs),
		"func 1 1\n" + strings.Repeat("set r0 0\n", api.MaxCode-1) + "ret r0\n",
	} {
		wantCheck(t, s, api.OK)
	}
}

// TestUnset (P3.3): a reached instruction reads what is not set on some way.
func TestUnset(t *testing.T) {
	for _, s := range []string{
		"func 0 1\nret r0\n",
		"func 1 2\nret r1\n",
		"func 2 3\nret r2\n",
		"func 2 12\nret r11\n",
		"func 1 2\nadd r0 r0 r1\nret r0\n",
		"func 1 2\nadd r0 r1 r0\nret r0\n",
		"func 1 2\nload r0 r1\nret r0\n",
		"func 1 2\nhost r0 r1\nret r0\n",
		"func 1 2\nstore r1 r0\nret r0\n",
		"func 1 2\nstore r0 r1\nret r0\n",
		"func 1 2\nif r1 0\nret r0\n",
		// What an instruction sets is set behind it, not ahead of it.
		"func 1 2\nadd r1 r1 r0\nret r0\n",
		"func 1 2\nadd r1 r0 r1\nret r0\n",
		"func 0 1\nhost r0 r0\nret r0\n",
		"func 1 2\nret r0\nset r1 0\nret r1\nfunc 1 2\nset r0 0\nret r1\n",
		// Set on one way only.
		"func 1 2\nif r0 2\nset r1 0\nret r1\n",
		"func 1 2\nif r0 3\nset r1 0\njump 3\nret r1\n",
		"func 1 2\nif r0 3\nret r0\nset r1 0\nret r1\n",
		// Not set in the first round.
		"func 1 3\nset r2 0\nif r2 5\nadd r2 r1 r0\nset r1 0\njump 1\nret r0\n",
		"func 1 2\njump 2\nset r1 0\nif r1 1\nret r0\n",
		// A store, a jump and an If set nothing, whatever they read.
		"func 1 2\nstore r0 r0\nif r0 3\njump 3\nret r1\n",
		// At the last place, and the last function.
		"func 1 2\n" + strings.Repeat("set r0 0\n", api.MaxCode-1) + "ret r1\n",
		strings.Repeat("func 1 2\nret r0\n", api.MaxFuncs-1) + "func 1 2\nret r1\n",
		// Registers of the one who calls, or of the one who is called, are not its own.
		"func 2 2\nset r1 0\ncall r0 1 r0 r1\nret r0\nfunc 0 2\nret r1\n",
		"func 1 2\ncall r0 1 r0 r0\nret r1\nfunc 1 2\nset r1 0\nret r0\n",
	} {
		wantCheck(t, s, api.ErrUnset)
	}
}

// TestCalls (P3.3): a Call reads as many registers as its function has parameters, A first.
func TestCalls(t *testing.T) {
	callee := []string{"func 0 1\nset r0 0\nret r0\n", "func 1 1\nret r0\n", "func 2 2\nret r0\n"}
	for params, f := range callee {
		for _, c := range []struct {
			regs string
			set  int // how many of A and B, from A on, are set
		}{{"r2 r3", 0}, {"r2 r0", 0}, {"r0 r2", 1}, {"r0 r1", 2}, {"r1 r0", 2}} {
			want := api.OK
			if params > c.set {
				want = api.ErrUnset
			}
			wantCheck(t, "func 2 4\ncall r0 1 "+c.regs+"\nret r0\n"+f, want)
		}
	}
	wantCheck(t, "func 0 2\ncall r1 0 r0 r0\nret r1\n", api.OK)
	wantCheck(t, "func 1 2\ncall r1 0 r0 r1\nret r1\n", api.OK)
	wantCheck(t, "func 1 2\ncall r1 0 r1 r0\nret r1\n", api.ErrUnset)
	wantCheck(t, "func 2 3\ncall r1 0 r0 r2\nret r1\n", api.ErrUnset)
}

// TestEnd (P3.3): the function's end is reached.
func TestEnd(t *testing.T) {
	for _, s := range []string{
		"func 0 1\nset r0 0\n",
		"func 1 1\nret r0\nfunc 1 1\nhost r0 r0\n",
		"func 1 1\nif r0 0\n",
		"func 1 1\nset r0 0\nif r0 1\n",
		"func 1 1\nif r0 2\nret r0\nstore r0 r0\n",
		"func 1 1\njump 2\nret r0\nload r0 r0\n",
		"func 1 1\njump 2\njump 1\nif r0 1\n",
		"func 1 1\nadd r0 r0 r0\n",
		"func 1 1\ncall r0 0 r0 r0\n",
		"func 1 1\ncall r0 1 r0 r0\nfunc 1 1\njump 0\n",
		"func 1 1\n" + strings.Repeat("set r0 0\n", api.MaxCode),
		strings.Repeat("func 1 1\nret r0\n", api.MaxFuncs-1) + "func 1 1\nset r0 0\n",
	} {
		wantCheck(t, s, api.ErrEnd)
	}
}

// TestOrder (P3.3): function by function; within one, ErrUnset ahead of ErrEnd.
func TestOrder(t *testing.T) {
	const unset, end, right = "func 0 1\nret r0\n", "func 1 1\nset r0 0\n", "func 1 1\nret r0\n"
	wantCheck(t, unset+end, api.ErrUnset)
	wantCheck(t, end+unset, api.ErrEnd)
	wantCheck(t, right+unset+end, api.ErrUnset)
	wantCheck(t, right+end+unset, api.ErrEnd)
	wantCheck(t, right+right+right+end, api.ErrEnd)
	wantCheck(t, "func 0 1\nstore r0 r0\n", api.ErrUnset)
	wantCheck(t, "func 1 2\nif r0 2\nret r1\nset r0 0\n", api.ErrUnset)
	wantCheck(t, "func 1 2\njump 2\nret r1\nif r0 1\n", api.ErrUnset)
	wantCheck(t, "func 0 1\nstore r0 r0\n"+end, api.ErrUnset)
	wantCheck(t, end+"func 0 1\nstore r0 r0\n", api.ErrEnd)
}

// TestCheckDrawn (P3.3): drawn programs, held against the chapter's words; they stay as they were.
func TestCheckDrawn(t *testing.T) {
	d := drawn.Die(32)
	seen := map[api.Errno]int{}
	for i := range 3000 {
		p := shaken(&d)
		if i%5 == 0 {
			p = drawn.Program(&d)
		}
		before := fmt.Sprint(p)
		want := rightOf(p)
		if e := proof.Check(p); e != want {
			t.Errorf("Check(%v): %v, want %v", p, e, want)
		}
		if fmt.Sprint(p) != before {
			t.Fatalf("Check changed %s to %v", before, p)
		}
		seen[want]++
	}
	for _, e := range []api.Errno{api.OK, api.ErrUnset, api.ErrEnd} {
		if seen[e] < 100 {
			t.Errorf("%v comes only %d times", e, seen[e])
		}
	}
}

// walk: some way through a function, as the die falls: is something read that was not set on it, or does it run out?
func walk(d *drawn.Die, p api.Program, f api.Func) api.Errno {
	var set [api.MaxRegs]bool
	for r := range f.Params {
		set[r] = true
	}
	pc := 0
	for range 300 {
		if pc == len(f.Code) {
			return api.ErrEnd
		}
		x := f.Code[pc]
		if slices.ContainsFunc(told.ReadBy(p, x), func(r int) bool { return !set[r] }) {
			return api.ErrUnset
		}
		for r := range f.Regs {
			set[r] = set[r] || told.SetBy(x, r)
		}
		next := told.Behind(f, pc)
		if len(next) == 0 {
			break
		}
		pc = next[d.Below(len(next))]
	}
	return api.OK
}

// TestWalks (P3.3, and what comes of it): no way through a right program reads what was not set, or runs out of its function.
func TestWalks(t *testing.T) {
	d := drawn.Die(33)
	refused := 0
	for range 1500 {
		p := shaken(&d)
		right := proof.Check(p) == api.OK
		for _, f := range p.Funcs {
			for range 5 {
				e := walk(&d, p, f)
				if right && e != api.OK {
					t.Fatalf("%v is right, but a way is %v", p, e)
				}
				if e != api.OK {
					refused++
				}
			}
		}
	}
	if refused < 500 {
		t.Errorf("only %d ways of programs that are not right went wrong", refused)
	}
}

// FuzzProof (P3.2, P3.3, P3.4): whatever the program is, the answers are those of the chapter's words.
func FuzzProof(f *testing.F) {
	d := drawn.Die(34)
	for range 20 {
		l, _ := code.Encode(shaken(&d))
		f.Add(l)
	}
	f.Fuzz(func(t *testing.T, l []byte) {
		p, e := code.Decode(l)
		if e != api.OK {
			return
		}
		if e := proof.Check(p); e != rightOf(p) {
			t.Errorf("Check(%v): %v, want %v", p, e, rightOf(p))
		}
		for fn, f := range p.Funcs {
			wantSure(t, p, fn, sureOf(f))
			for pc := range f.Code {
				wantReads(t, p, fn, pc)
			}
		}
	})
}
