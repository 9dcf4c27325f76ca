package emit_test

import (
	"testing"

	"tierline/api"
	"tierline/code"
	"tierline/drawn"
	"tierline/emit"
	"tierline/proof"
	"tierline/step"
	"tierline/told"
)

// TestDrawn (P13.3, P13.5): from each state of drawn runs machine code goes as far as is told, and leaves for each reason.
func TestDrawn(t *testing.T) {
	d := drawn.Die(132)
	seen := map[string]int{}
	for i := range 1000 {
		p := drawn.Any(&d, i)
		for why, n := range wantAll(t, p, drawn.Args(&d, p), []int{3, 0, -7}, d.Below(80)) {
			seen[why] += n
		}
	}
	for _, why := range []string{"no block", "fuel", "zero", "outside", "end"} {
		if seen[why] < 60 {
			t.Errorf("machine code leaves only %d times for %q", seen[why], why)
		}
	}
}

// arithmetic: a drawn program of one function that stays within it for long: it has no Call, no Host and one Ret, its memory is always there, and nothing is divided.
func arithmetic(d *drawn.Die) api.Program {
	for {
		f := api.Func{Params: 2, Regs: 4 + d.Below(9)}
		for r := 2; r < f.Regs; r++ {
			f.Code = append(f.Code, api.Instr{Op: api.Set, Dst: r, Imm: d.Below(30)})
		}
		for len(f.Code) < api.MaxCode-1 {
			switch x := drawn.Instr(d, f.Regs, api.MaxCode, 1); x.Op {
			case api.Call, api.Host, api.Ret, api.Div, api.Set, api.Load, api.Store:
			default:
				f.Code = append(f.Code, x)
			}
		}
		p := api.Program{Funcs: []api.Func{{Params: 2, Regs: f.Regs, Code: append(f.Code, api.Instr{Op: api.Ret})}}}
		if proof.Check(p) == api.OK {
			return p
		}
	}
}

// TestLong (P13.5): long ways of machine code, through many blocks with many live registers.
func TestLong(t *testing.T) {
	d := drawn.Die(133)
	longest, back := 0, 0
	for range 800 {
		p := arithmetic(&d)
		ws := words(t, p)
		s := told.Begin(t, p, []int{edges[d.Below(len(edges))], d.Below(9)}, nil, 300)
		for range 3 {
			left, n, _ := wantFar(t, p, ws, s)
			longest = max(longest, n)
			if n > 2*api.MaxCode {
				back++
			}
			s = walk(t, p, left, 1+d.Below(5))
			if s.Status != api.Running {
				break
			}
		}
	}
	if longest < 290 || back < 150 {
		t.Errorf("the longest way has %d steps, %d come to a place again", longest, back)
	}
}

// TestEitherWay (what comes of P13): a run that goes as machine code or as byte code, as drawn picks say, comes to what byte code comes to.
func TestEitherWay(t *testing.T) {
	d := drawn.Die(134)
	var seen [api.Deep + 1]int
	walked := 0
	for i := range 1000 {
		p := drawn.Any(&d, i)
		ws := words(t, p)
		args, answers, fuel := drawn.Args(&d, p), []int{2, 0, 5, -1}, d.Below(300)
		s := told.Begin(t, p, args, answers, fuel)
		for s.Status == api.Running {
			if d.Below(2) == 0 {
				_, n, _ := toldFar(p, s)
				s = native(t, p, ws, s, n)
				walked += n
			}
			s = walk(t, p, s, d.Below(4))
		}
		want, _ := step.Run(p, args, answers, fuel)
		if !same(told.Tidied(p, s, 0), told.Tidied(p, want, 0)) {
			t.Fatalf("%v %v %d comes to\n%v, want\n%v", p, args, fuel, s, want)
		}
		seen[s.Status]++
	}
	for _, status := range []int{api.Done, api.Empty, api.Zero, api.Outside, api.Deep} {
		if seen[status] < 10 {
			t.Errorf("status %d comes only %d times", status, seen[status])
		}
	}
	if walked < 3000 {
		t.Errorf("machine code did only %d steps", walked)
	}
}

// FuzzEmit (P13.2 to P13.5): whatever the program is, it is refused, or machine code goes as far as is told from each state of its runs.
func FuzzEmit(f *testing.F) {
	d := drawn.Die(135)
	for i := range 21 {
		l, _ := code.Encode(drawn.Any(&d, i))
		f.Add(l, d.Below(20), d.Below(20), d.Below(100))
	}
	f.Fuzz(func(t *testing.T, l []byte, a, b, fuel int) {
		told.Decoded(l, func(p api.Program, fn int, want api.Errno) {
			if ws, e := emit.Function(p, fn); e != want || len(ws) != 0 {
				t.Fatalf("Function(%v, %d): %v %v, want %v", p, fn, ws, e, want)
			}
		}, func(p api.Program, fn int) {
			if fn == 0 {
				wantAll(t, p, []int{a, b}[:p.Funcs[0].Params], []int{b, a}, fuel&127)
			}
		})
	})
}
