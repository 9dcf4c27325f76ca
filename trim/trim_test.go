package trim_test

import (
	"fmt"
	"math"
	"slices"
	"strings"
	"testing"

	"tierline/api"
	"tierline/code"
	"tierline/drawn"
	"tierline/proof"
	"tierline/told"
	"tierline/trim"
)

// uncalled functions: the last one calls itself, the one ahead of it calls the last.
const uncalled = "func 0 1\nset r0 3\nret r0\nfunc 0 1\ncall r0 2 r0 r0\nret r0\nfunc 0 1\ncall r0 2 r0 r0\nret r0\n"

// TestWhere (P5.1): places, and how many ahead of them are reached.
func TestWhere(t *testing.T) {
	for _, c := range []struct {
		text string
		fn   int
		want []int
	}{
		{counted, 0, []int{0, 1, 2, 3, 4, 5, 6}},
		{"func 1 1\nret r0\n", 0, []int{0}},
		{"func 1 1\nret r0\nret r0\n", 0, []int{0, -1}},
		{"func 0 1\njump 2\nset r0 0\njump 2\n", 0, []int{0, -1, 1}},
		{"func 1 1\njump 3\nset r0 0\nset r0 1\nif r0 6\nret r0\nset r0 2\njump 4\n", 0, []int{0, -1, -1, 1, 2, -1, 3}},
		// What is not reached leads nowhere, not even to itself.
		{"func 1 1\nret r0\njump 1\n", 0, []int{0, -1}},
		{"func 1 1\nret r0\njump 3\njump 1\nif r0 1\n", 0, []int{0, -1, -1, -1}},
		// Backwards.
		{"func 1 1\njump 3\nret r0\nset r0 0\nif r0 1\njump 1\n", 0, []int{0, 1, -1, 2, 3}},
		// An If goes both ways, whatever it reads; behind a Call it goes on, though that never comes back.
		{"func 0 1\nset r0 0\nif r0 3\nret r0\nret r0\n", 0, []int{0, 1, 2, 3}},
		{"func 1 1\ncall r0 0 r0 r0\nret r0\nset r0 0\n", 0, []int{0, 1, -1}},
		// Functions that nobody calls.
		{uncalled, 1, []int{0, 1}},
		{"func 1 1\nret r0\nfunc 1 1\njump 2\nret r0\nif r0 2\njump 0\n", 1, []int{0, -1, 1, 2}},
		{"func 1 1\n" + strings.Repeat("ret r0\n", api.MaxCode), 0, append([]int{0}, slices.Repeat([]int{-1}, api.MaxCode-1)...)},
		{strings.Repeat("func 1 1\nret r0\n", api.MaxFuncs-1) + "func 1 1\njump 2\nset r0 1\nret r0\n", api.MaxFuncs - 1, []int{0, -1, 1}},
	} {
		l, e := trim.Where(told.Text(t, c.text), c.fn)
		if e != api.OK || !slices.Equal(l, c.want) {
			t.Errorf("Where(%q, %d): %v %v, want %v", c.text, c.fn, l, e, c.want)
		}
	}
}

// TestWhereRefuses (P5.1): functions that are none.
func TestWhereRefuses(t *testing.T) {
	for _, s := range []string{counted, uncalled, strings.Repeat(counted, api.MaxFuncs)} {
		p := told.Text(t, s)
		for _, fn := range []int{-1, len(p.Funcs), len(p.Funcs) + 1, 1 << 32, -1 << 32, math.MinInt, math.MaxInt} {
			if l, e := trim.Where(p, fn); e != api.ErrRange || len(l) != 0 {
				t.Errorf("Where(%q, %d): %v %v, want nothing and %v", s, fn, l, e, api.ErrRange)
			}
		}
	}
}

// TestCalled (P5.2): functions that are called, and others.
func TestCalled(t *testing.T) {
	const call = "func 1 1\ncall r0 %d r0 r0\nret r0\n"
	calls := func(l ...int) string {
		s := ""
		for _, fn := range l {
			s += fmt.Sprintf(call, fn)
		}
		return s
	}
	for _, c := range []struct {
		text string
		want []bool
	}{
		{counted, []bool{true}},
		{calls(0), []bool{true}},
		{uncalled, []bool{true, false, false}},
		{calls(0, 0), []bool{true, false}},
		{calls(1, 1), []bool{true, true}},
		{calls(1, 0), []bool{true, true}},
		{calls(2, 1, 0), []bool{true, false, true}},
		{calls(3, 2, 1, 2), []bool{true, true, true, true}},
		{calls(3, 2, 1, 0), []bool{true, false, false, true}},
		{calls(2, 3, 1, 3), []bool{true, true, true, true}},
		{calls(1, 2, 3, 3), []bool{true, true, true, true}},
		// A Call that is not reached, in a function that is called.
		{"func 1 1\nret r0\ncall r0 1 r0 r0\nret r0\n" + calls(1), []bool{true, false}},
		{"func 1 1\ncall r0 1 r0 r0\nret r0\nfunc 1 1\njump 2\ncall r0 2 r0 r0\nret r0\n" + calls(2), []bool{true, true, false}},
		// Several of one function, and one behind a Call of a function that never comes back.
		{"func 1 1\ncall r0 3 r0 r0\ncall r0 1 r0 r0\nret r0\n" + calls(1, 2, 3), []bool{true, true, false, true}},
		// An Imm that is no function.
		{"func 0 1\nset r0 1\nif r0 1\njump 1\n" + calls(1), []bool{true, false}},
	} {
		l, e := trim.Called(told.Text(t, c.text))
		if e != api.OK || !slices.Equal(l, c.want) {
			t.Errorf("Called(%q): %v %v, want %v", c.text, l, e, c.want)
		}
	}
}

// TestProgram (P5.3): what is left.
func TestProgram(t *testing.T) {
	for _, c := range []struct{ text, want string }{
		{counted, counted},
		{uncalled, "func 0 1\nset r0 3\nret r0\n"},
		{"func 0 1\njump 2\nset r0 0\njump 2\n", "func 0 1\njump 1\njump 1\n"},
		{"func 1 1\nret r0\njump 0\n", "func 1 1\nret r0\n"},
		{"func 1 1\njump 3\nset r0 0\nset r0 1\nif r0 6\nret r0\nset r0 2\njump 4\n", "func 1 1\njump 1\nif r0 3\nret r0\njump 2\n"},
		// A number, a place and a function, all 2; parameters and registers stay, though no longer read.
		{"func 2 5\njump 2\nset r4 2\nset r3 2\nif r1 2\ncall r0 2 r0 r1\nret r0\nfunc 0 1\njump 0\nfunc 1 7\nret r0\n",
			"func 2 5\njump 1\nset r3 2\nif r1 1\ncall r0 1 r0 r1\nret r0\nfunc 1 7\nret r0\n"},
		// A function that is called only by what is gone is gone, too; so is one that only gone ones call.
		{"func 1 1\ncall r0 3 r0 r0\nret r0\ncall r0 1 r0 r0\nret r0\nfunc 1 1\ncall r0 2 r0 r0\nret r0\nfunc 1 1\nret r0\nfunc 1 1\nif r0 2\ncall r0 3 r0 r0\ncall r0 0 r0 r0\nret r0\n",
			"func 1 1\ncall r0 1 r0 r0\nret r0\nfunc 1 1\nif r0 2\ncall r0 1 r0 r0\ncall r0 0 r0 r0\nret r0\n"},
		{"func 1 1\njump 39\n" + strings.Repeat("set r0 1\n", api.MaxCode-2) + "ret r0\n", "func 1 1\njump 1\nret r0\n"},
		{"func 1 1\nset r0 0\n" + strings.Repeat("if r0 39\n", api.MaxCode-2) + "jump 38\n", "func 1 1\nset r0 0\n" + strings.Repeat("if r0 39\n", api.MaxCode-2) + "jump 38\n"},
		// What does nothing, but is reached, stays.
		{"func 1 2\nset r1 0\njump 2\nif r0 3\nret r0\n", "func 1 2\nset r1 0\njump 2\nif r0 3\nret r0\n"},
		{strings.Repeat("func 1 1\nret r0\nret r0\n", api.MaxFuncs), "func 1 1\nret r0\n"},
	} {
		q, e := trim.Program(told.Text(t, c.text))
		if want := told.Text(t, c.want); e != api.OK || !same(q, want) {
			t.Errorf("Program(%q): %v %v, want %v", c.text, q, e, want)
		}
	}
}

// TestWrong (P5.1, P5.2, P5.3): what proof's Check refuses is refused with the same error, ahead of a function that is none, and in functions that nobody calls.
func TestWrong(t *testing.T) {
	for _, p := range drawn.WrongAnywhere() {
		want := proof.Check(p)
		for _, fn := range []int{0, 1, -1, 9, math.MinInt, math.MaxInt} {
			if l, e := trim.Where(p, fn); len(l) != 0 || e != want {
				t.Errorf("Where(%v, %d): %v %v, want nothing and %v", p, fn, l, e, want)
			}
		}
		if l, e := trim.Called(p); len(l) != 0 || e != want {
			t.Errorf("Called(%v): %v %v, want nothing and %v", p, l, e, want)
		}
		if q, e := trim.Program(p); len(q.Funcs) != 0 || e != want {
			t.Errorf("Program(%v): %v %v, want nothing and %v", p, q, e, want)
		}
	}
}

// wantTrimmed: all answers to a right program are those of the chapter's words; how many functions and instructions are gone?
func wantTrimmed(t *testing.T, p api.Program) (funcs, places int) {
	t.Helper()
	for fn, f := range p.Funcs {
		l, e := trim.Where(p, fn)
		if want := whereOf(f); e != api.OK || !slices.Equal(l, want) {
			t.Errorf("Where(%v, %d): %v %v, want %v", p, fn, l, e, want)
		}
		for _, n := range l {
			places += min(n, 0)
		}
	}
	l, e := trim.Called(p)
	if want := calledOf(p); e != api.OK || !slices.Equal(l, want) {
		t.Errorf("Called(%v): %v %v, want %v", p, l, e, want)
	}
	q, e := trim.Program(p)
	if want := left(p); e != api.OK || !same(q, want) {
		t.Errorf("Program(%v): %v %v, want %v", p, q, e, want)
	}
	return len(p.Funcs) - len(q.Funcs), -places
}

// TestDrawn (P5.1, P5.2, P5.3): drawn programs, held against the chapter's words.
func TestDrawn(t *testing.T) {
	d := drawn.Die(51)
	funcs, places := 0, 0
	for range 1000 {
		n, m := wantTrimmed(t, drawn.Right(&d))
		funcs, places = funcs+n, places+m
	}
	if funcs < 200 || places < 5000 {
		t.Errorf("only %d functions and %d places are gone", funcs, places)
	}
}

// TestTwice (P5.3): what is left is right, and all of it is left again.
func TestTwice(t *testing.T) {
	d := drawn.Die(52)
	for range 300 {
		p := drawn.Right(&d)
		q, _ := trim.Program(p)
		if e := proof.Check(q); e != api.OK {
			t.Fatalf("Program(%v): %v is refused: %v", p, q, e)
		}
		if r, e := trim.Program(q); e != api.OK || !same(r, q) {
			t.Errorf("Program(%v): %v %v, want it as it is", q, r, e)
		}
	}
}

// FuzzTrim (P5.1, P5.2, P5.3): whatever the program is, the answers are those of the chapter's words.
func FuzzTrim(f *testing.F) {
	d := drawn.Die(53)
	for range 20 {
		l, _ := code.Encode(drawn.Right(&d))
		f.Add(l)
	}
	f.Fuzz(func(t *testing.T, l []byte) {
		p, e := code.Decode(l)
		if e != api.OK {
			return
		}
		if want := proof.Check(p); want != api.OK {
			if _, e := trim.Program(p); e != want {
				t.Errorf("Program(%v): %v, want %v", p, e, want)
			}
			return
		}
		wantTrimmed(t, p)
	})
}
