package drawn_test

import (
	"reflect"
	"testing"

	"tierline/api"
	"tierline/code"
	"tierline/drawn"
	"tierline/proof"
)

// wantDrawn: what is drawn passes the check, has each op and functions at the limits, and is the same each time.
func wantDrawn(t *testing.T, draw func(*drawn.Die) api.Program, check func(api.Program) api.Errno) {
	t.Helper()
	var seen [api.Ret + 1]int
	places, regs := 0, 0
	d, again := drawn.Die(1), drawn.Die(1)
	for range 300 {
		p := draw(&d)
		if e := check(p); e != api.OK {
			t.Fatalf("%v is refused: %v", p, e)
		}
		if q := draw(&again); !reflect.DeepEqual(p, q) {
			t.Fatalf("drawn anew, %v is %v", p, q)
		}
		for _, f := range p.Funcs {
			places, regs = max(places, len(f.Code)), max(regs, f.Regs)
			for _, x := range f.Code {
				seen[x.Op]++
			}
		}
	}
	for op := api.Set; op <= api.Ret; op++ {
		if seen[op] < 100 {
			t.Errorf("op %d is drawn only %d times", op, seen[op])
		}
	}
	if places != api.MaxCode || regs != api.MaxRegs {
		t.Errorf("at most %d places and %d registers are drawn", places, regs)
	}
}

// TestProgram: what is drawn is well shaped.
func TestProgram(t *testing.T) { wantDrawn(t, drawn.Program, code.Check) }

// TestRight: what is drawn is right.
func TestRight(t *testing.T) { wantDrawn(t, drawn.Right, proof.Check) }

// TestTangled: what is drawn is right.
func TestTangled(t *testing.T) { wantDrawn(t, drawn.Tangled, proof.Check) }

// TestPartly: what is drawn is right.
func TestPartly(t *testing.T) { wantDrawn(t, drawn.Partly, proof.Check) }

// TestAny: each kind comes in its turn.
func TestAny(t *testing.T) {
	d, again := drawn.Die(5), drawn.Die(5)
	for i := range 30 {
		kinds := []func(*drawn.Die) api.Program{drawn.Right, drawn.Partly, drawn.Tangled}
		if p, q := drawn.Any(&d, i), kinds[i%3](&again); !reflect.DeepEqual(p, q) {
			t.Fatalf("kind %d: %v, want %v", i, p, q)
		}
	}
}

// TestGreatest: it is well shaped.
func TestGreatest(t *testing.T) {
	if e := code.Check(drawn.Greatest()); e != api.OK {
		t.Errorf("it is not well shaped: %v", e)
	}
}

// wantWrong: programs are refused with these errors.
func wantWrong(t *testing.T, l []api.Program, want ...api.Errno) {
	t.Helper()
	if len(l) != len(want) {
		t.Fatalf("%d programs, want %d", len(l), len(want))
	}
	for i, p := range l {
		if e := proof.Check(p); e != want[i] {
			t.Errorf("program %d is %v, want %v", i, e, want[i])
		}
	}
}

// TestWrong: each of them is refused with an error of its own.
func TestWrong(t *testing.T) {
	wantWrong(t, drawn.Wrong(), api.ErrSize, api.ErrRange, api.ErrKind, api.ErrUnset, api.ErrEnd)
}

// TestWrongAnywhere: all of these, and behind another function all but the one without functions.
func TestWrongAnywhere(t *testing.T) {
	l := drawn.WrongAnywhere()
	wantWrong(t, l, api.ErrSize, api.ErrRange, api.ErrKind, api.ErrUnset, api.ErrEnd, api.ErrRange, api.ErrKind, api.ErrUnset, api.ErrEnd)
	for _, p := range l[5:] {
		if p.Funcs = p.Funcs[:1]; proof.Check(p) != api.OK {
			t.Errorf("the first function is wrong: %v", p)
		}
	}
}

// TestArgs: as many as there are parameters, below 0 and above it, and noughts.
func TestArgs(t *testing.T) {
	seen := map[int]int{}
	d := drawn.Die(3)
	for range 300 {
		p := drawn.Right(&d)
		l := drawn.Args(&d, p)
		if len(l) != p.Funcs[0].Params {
			t.Fatalf("%d arguments for %v", len(l), p)
		}
		for _, n := range l {
			seen[n]++
		}
	}
	for n := -2; n < 18; n++ {
		if seen[n] == 0 {
			t.Errorf("%d never comes", n)
		}
	}
}

// TestRoomy: it is the same program, and who writes into its spare room is found out.
func TestRoomy(t *testing.T) {
	d := drawn.Die(4)
	for range 50 {
		p := drawn.Right(&d)
		q, asItWas := drawn.Roomy(p)
		if !reflect.DeepEqual(p, q) || !asItWas() {
			t.Fatalf("%v with room is %v", p, q)
		}
		_ = append(q.Funcs[len(q.Funcs)-1].Code, api.Instr{})
		if asItWas() {
			t.Errorf("an instruction behind those of %v is not found", q)
		}
		q, asItWas = drawn.Roomy(p)
		_ = append(q.Funcs, api.Func{})
		if asItWas() {
			t.Errorf("a function behind those of %v is not found", q)
		}
	}
}

// TestBelow: each number below the bound comes, and no other.
func TestBelow(t *testing.T) {
	var seen [7]int
	d := drawn.Die(2)
	for range 700 {
		seen[d.Below(7)]++
	}
	for n, times := range seen {
		if times < 50 {
			t.Errorf("%d comes only %d times", n, times)
		}
	}
}
