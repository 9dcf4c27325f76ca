package emit_test

import (
	"fmt"
	"math"
	"testing"

	"tierline/api"
	"tierline/cpu"
	"tierline/emit"
	"tierline/step"
	"tierline/told"
)

// edges: numbers at the bounds, and others.
var edges = []int{math.MinInt, math.MinInt + 1, -1 << 32, -2049, -2048, -65, -64, -16, -7, -1, 0, 1, 2, 7, 15, 16, 63, 64, 65, 2047, 2048, 1 << 31, 1 << 32, math.MaxInt - 1, math.MaxInt}

// top frame of a state.
func top(s api.State) *api.Frame { return &s.Frames[len(s.Frames)-1] }

// same: a list without elements may be nil or not, which a text does not tell.
func same(s, want api.State) bool { return fmt.Sprint(s) == fmt.Sprint(want) }

// walk so many steps, which must not be refused.
func walk(t *testing.T, p api.Program, s api.State, n int) api.State {
	t.Helper()
	w, e := step.Walk(p, s, n)
	if e != api.OK {
		t.Fatalf("Walk(%v, %v, %d): %v, want OK", p, s, n, e)
	}
	return w
}

// counted: how many instructions of the block that begins at a place are counted, and whether it leaves behind these (P13.3).
func counted(f api.Func, begins []bool, from int) (n int, leaves bool) {
	for pc := from; ; pc++ {
		switch op := f.Code[pc].Op; {
		case op == api.Call || op == api.Host || op == api.Ret:
			return pc - from, true
		case told.Ends(op) || begins[pc+1]:
			return pc + 1 - from, false
		}
	}
}

// toldFar: how far machine code goes from a state that is Running, and how many steps these are, by the words of P13.3; why it leaves.
func toldFar(p api.Program, s api.State) (left api.State, n int, why string) {
	f := p.Funcs[top(s).Fn]
	begins := told.Begins(f)
	for begins[top(s).Pc] {
		steps, leaves := counted(f, begins, top(s).Pc)
		if s.Fuel < steps {
			return s, n, "fuel"
		}
		for range steps {
			next, _ := step.Next(p, s)
			if next.Status == api.Zero {
				return s, n, "zero"
			}
			if next.Status == api.Outside {
				return s, n, "outside"
			}
			s = next
			n++
		}
		if leaves {
			return s, n, "end"
		}
	}
	return s, n, "no block"
}

// words of all functions of a program.
func words(t *testing.T, p api.Program) [][]int {
	t.Helper()
	var l [][]int
	for fn := range p.Funcs {
		ws, e := emit.Function(p, fn)
		if e != api.OK {
			t.Fatalf("Function(%v, %d): %v, want OK", p, fn, e)
		}
		if e := cpu.Check(ws); e != api.OK {
			t.Fatalf("Function(%v, %d): %d words: %v", p, fn, len(ws), e)
		}
		l = append(l, ws)
	}
	return l
}

// native: the state to which machine code goes, which has no more steps for that than it may have for those of byte code.
func native(t *testing.T, p api.Program, ws [][]int, s api.State, steps int) api.State {
	t.Helper()
	c, e := emit.Enter(p, s)
	if e != api.OK {
		t.Fatalf("Enter(%v, %v): %v, want OK", p, s, e)
	}
	c, _, e = cpu.Run(ws[top(s).Fn], c, 1000+300*steps)
	if e != api.OK {
		t.Fatalf("%v: from %v the machine goes on to %v, want it to stop", p, s, e)
	}
	left, e := emit.Leave(p, s, c)
	if e != api.OK {
		t.Fatalf("Leave(%v, %v, %v): %v, want OK", p, s, c, e)
	}
	return left
}

// wantFar: Far tells how far machine code goes from a state, and the words of its function go there (P13.3, P13.5). Which state that is, and why it leaves.
func wantFar(t *testing.T, p api.Program, ws [][]int, s api.State) (left api.State, n int, why string) {
	t.Helper()
	want, steps, why := toldFar(p, s)
	left, n, e := emit.Far(p, s)
	if e != api.OK || n != steps || !same(left, want) {
		t.Fatalf("Far(%v, %v):\n%v %d %v, want\n%v %d", p, s, left, n, e, want, steps)
	}
	if got := native(t, p, ws, s, n); !same(got, told.Tidied(p, want, len(want.Frames)-1)) {
		t.Fatalf("%v: from %v machine code goes to\n%v, byte code to\n%v", p, s, got, want)
	}
	return left, n, why
}

// wantAll: machine code goes as far as is told, and the same way, from each state to which a run comes; for each reason how often it leaves so.
func wantAll(t *testing.T, p api.Program, args, answers []int, fuel int) map[string]int {
	t.Helper()
	ws := words(t, p)
	seen := map[string]int{}
	for s := told.Begin(t, p, args, answers, fuel); s.Status == api.Running; s = walk(t, p, s, 1) {
		_, _, why := wantFar(t, p, ws, s)
		seen[why]++
	}
	return seen
}
