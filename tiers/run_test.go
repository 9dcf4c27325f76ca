package tiers_test

import (
	"fmt"
	"math"
	"slices"
	"testing"

	"tierline/api"
	"tierline/code"
	"tierline/drawn"
	"tierline/proof"
	"tierline/tiers"
	"tierline/told"
)

// TestRun (P14.3): the document's example, with each field of what comes of it.
func TestRun(t *testing.T) {
	p := told.Text(t, told.Counted)
	for picks, want := range map[string]api.Outcome{
		"":   {State: api.State{Status: api.Done, Value: 55, Fuel: 56}},
		"cn": {State: api.State{Status: api.Done, Value: 55, Fuel: 56}, Natives: 1, Walked: 43, Kept: []int{0}},
	} {
		if o, e := tiers.Run(p, []int{10}, nil, 100, picked(picks)); e != api.OK || !same(o, want) {
			t.Errorf("Run, %q: %v %v, want %v", picks, o, e, want)
		}
	}
}

// TestRunEnds (P14.3): each status to which a run comes, with what is left of its frames, its memory, its events and answers.
func TestRunEnds(t *testing.T) {
	const host = "func 1 3\nset r1 3\nset r2 9\nstore r1 r0\nhost r0 r0\ndiv r0 r0 r0\nret r1\n"
	memory := [api.Memory]int{3: 7}
	for _, c := range []struct {
		fuel    int
		answers []int
		want    api.State
	}{
		{6, []int{5, 6}, api.State{Status: api.Done, Value: 3, Memory: memory, Events: []int{7}, Answers: []int{6}}},
		{5, []int{5}, api.State{Status: api.Empty, Frames: []api.Frame{{Pc: 5, Regs: [api.MaxRegs]int{0, 3}}}, Memory: memory, Events: []int{7}}},
		{4, []int{5}, api.State{Status: api.Empty, Frames: []api.Frame{{Pc: 4, Regs: [api.MaxRegs]int{5, 3}}}, Memory: memory, Events: []int{7}}},
		{9, nil, api.State{Status: api.Zero, Frames: []api.Frame{{Pc: 4, Regs: [api.MaxRegs]int{0, 3}}}, Memory: memory, Fuel: 5, Events: []int{7}}},
		{2, nil, api.State{Status: api.Empty, Frames: []api.Frame{{Pc: 2, Regs: [api.MaxRegs]int{7, 3}}}}},
		{0, nil, api.State{Status: api.Empty, Frames: []api.Frame{{Regs: [api.MaxRegs]int{7}}}}},
	} {
		for _, picks := range []string{"", "ss", "cn", "cnsn", "cnnsnns", "ssssssss"} {
			o, _ := wantRun(t, told.Text(t, host), []int{7}, c.answers, c.fuel, picked(picks))
			if !same(o.State, c.want) {
				t.Errorf("with %d, %q: %v, want %v", c.fuel, picks, o.State, c.want)
			}
		}
	}
}

// TestRunDeep (P14.3): frames ahead of the last one are tidied too.
func TestRunDeep(t *testing.T) {
	p := told.Text(t, "func 2 3\nset r2 5\ncall r2 0 r1 r0\nret r1\n")
	for _, picks := range []string{"", "cn", "cnsnsnsnsn", "sssscn"} {
		o, _ := wantRun(t, p, []int{3, 4}, nil, 99, picked(picks))
		if o.State.Status != api.Deep || len(o.State.Frames) != api.MaxDepth || o.State.Frames[6].Regs != [api.MaxRegs]int{3, 4} || o.State.Frames[7].Regs != [api.MaxRegs]int{4, 3} {
			t.Errorf("%q: %v", picks, o)
		}
	}
}

// TestRunLimits (P14.3): as many picks as may be, of each kind, with as much fuel and as many answers as may be, in runs that end soon and in such that use all of the fuel.
func TestRunLimits(t *testing.T) {
	answers := slices.Repeat([]int{math.MinInt}, api.MaxAnswers)
	for _, s := range []string{"s", "n", "c", "d", "x", "cn", "cnd", "csnx", "cns"} {
		picks := slices.Repeat(picked(s), api.MaxPicks/len(s))
		picks = append(picks, make([]int, api.MaxPicks-len(picks))...)
		for _, text := range []string{told.Diamond, told.Counted, asking, "func 1 1\njump 0\n"} {
			wantRun(t, told.Text(t, text), []int{-1}, answers, api.MaxFuel, picks)
		}
	}
}

// TestRunRefusesPicks (P14.3): too many picks; then kinds that are none, wherever they stand, also where the run does not come to them.
func TestRunRefusesPicks(t *testing.T) {
	p := told.Text(t, told.Diamond)
	refused := func(picks []int, want api.Errno) {
		t.Helper()
		wantRefused(t, fmt.Sprint(len(picks), " picks"), p, []int{1}, nil, 9, picks, want)
	}
	most := make([]int, api.MaxPicks)
	wantRun(t, p, []int{1}, nil, 9, most)
	refused(append(most, 0), api.ErrSize)
	refused(append(most, 5), api.ErrSize)
	refused(slices.Repeat([]int{-1}, api.MaxPicks+1), api.ErrSize)
	refused(make([]int, 3*api.MaxPicks), api.ErrSize)
	for _, kind := range []int{-1, 5, 6, 1 << 32, -1 << 32, math.MinInt, math.MaxInt} {
		refused([]int{kind}, api.ErrKind)
		refused([]int{kind, 0, 1}, api.ErrKind)
		refused([]int{0, 1, 2, 3, 4, kind}, api.ErrKind)
		most[api.MaxPicks-1] = kind
		refused(most, api.ErrKind)
	}
}

// TestRunRefuses (P14.3): what Begin refuses, ahead of what picks are.
func TestRunRefuses(t *testing.T) {
	p := told.Text(t, told.Counted)
	many := make([]int, api.MaxAnswers+1)
	for _, picks := range [][]int{nil, {0, 1}, {5}, make([]int, api.MaxPicks+1)} {
		for _, c := range []struct {
			args, answers []int
			fuel          int
			want          api.Errno
		}{
			{nil, nil, 5, api.ErrSize},
			{[]int{1, 2}, nil, 5, api.ErrSize},
			{[]int{1}, many, 5, api.ErrSize},
			{nil, nil, -1, api.ErrSize},
			{[]int{1}, many, math.MinInt, api.ErrSize},
			{[]int{1}, nil, -1, api.ErrRange},
			{[]int{1}, many[1:], api.MaxFuel + 1, api.ErrRange},
			{[]int{1}, nil, math.MaxInt, api.ErrRange},
		} {
			wantRefused(t, fmt.Sprint(c, len(picks)), p, c.args, c.answers, c.fuel, picks, c.want)
		}
		for _, p := range drawn.WrongAnywhere() {
			wantRefused(t, fmt.Sprint(p), p, []int{1}, nil, 5, picks, proof.Check(p))
			wantRefused(t, fmt.Sprint(p), p, make([]int, 9), many, -1, picks, proof.Check(p))
		}
	}
}

// drawnPicks: so many picks; in some lists Compile comes often, and is not undone soon.
func drawnPicks(d *drawn.Die, n int) []int {
	kinds := [][]int{{0, 1, 2, 3, 4}, {0, 0, 1, 1, 2, 2, 2, 3}, {0, 0, 0, 1, 2, 2, 2, 2, 4}, {0, 0, 1, 2, 2, 2}}[d.Below(4)]
	l := make([]int, n)
	for i := range l {
		l[i] = kinds[d.Below(len(kinds))]
	}
	return l
}

// caller: a drawn program whose functions call each other often: where something would be divided, loaded or stored stands a Call.
func caller(d *drawn.Die) api.Program {
	p := drawn.Right(d)
	for fn, f := range p.Funcs {
		for pc, x := range f.Code {
			if x.Op == api.Div || x.Op == api.Load || x.Op == api.Store {
				f.Code[pc] = api.Instr{Op: api.Call, Dst: x.Dst, A: x.A, B: x.B, Imm: (fn + 1 + d.Below(2)) % len(p.Funcs)}
			}
		}
	}
	return p
}

// TestDrawn (P14.2, P14.3, and what comes of it): drawn runs with drawn picks come to what is told, and to the state to which byte code comes; each thing comes often.
func TestDrawn(t *testing.T) {
	d := drawn.Die(143)
	seen := map[string]int{}
	var ends [api.Deep + 1]int
	walked := 0
	for i := range 4000 {
		p := drawn.Any(&d, i)
		if i%2 == 0 {
			p = caller(&d)
		}
		o, saw := wantRun(t, p, drawn.Args(&d, p), []int{2, 0, 5, -1}, d.Below(300), drawnPicks(&d, d.Below(80)))
		for what, n := range saw {
			seen[what] += n
		}
		ends[o.State.Status]++
		walked += o.Walked
	}
	for _, what := range []string{"kept already", "compiled", "too many", "not kept", "no block", "entered", "entered for nothing", "dropped with 0", "dropped with 1", "dropped with 2", "cleared with 0", "cleared with 1", "cleared with 2", "picks behind the end"} {
		if seen[what] < 40 {
			t.Errorf("%s: only %d times", what, seen[what])
		}
	}
	for _, status := range []int{api.Done, api.Empty, api.Zero, api.Outside, api.Deep} {
		if ends[status] < 20 {
			t.Errorf("status %d comes only %d times", status, ends[status])
		}
	}
	if walked < 3000 {
		t.Errorf("machine code did only %d steps", walked)
	}
}

// TestAnyPicks (what comes of P14): of some runs all lists of five picks.
func TestAnyPicks(t *testing.T) {
	for _, text := range []string{turns, factorial, asking, told.Counted} {
		p := told.Text(t, text)
		for n := range 5 * 5 * 5 * 5 * 5 {
			picks := []int{n % 5, n / 5 % 5, n / 25 % 5, n / 125 % 5, n / 625}
			wantRun(t, p, []int{3}, []int{4, 2}, 40, picks)
		}
	}
}

// FuzzTiers (P14.1 to P14.3): whatever the program and the picks are, they are refused, or the run comes to what is told.
func FuzzTiers(f *testing.F) {
	d := drawn.Die(144)
	for i := range 21 {
		l, _ := code.Encode(drawn.Any(&d, i))
		var picks []byte
		for _, kind := range drawnPicks(&d, 30) {
			picks = append(picks, byte(kind+1))
		}
		f.Add(l, d.Below(20), d.Below(20), d.Below(100), picks)
	}
	f.Fuzz(func(t *testing.T, l []byte, a, b, fuel int, bytes []byte) {
		picks, kind := make([]int, min(len(bytes), 200)), api.OK
		for i := range picks {
			if picks[i] = int(bytes[i]) - 1; picks[i] < 0 || picks[i] > 4 {
				kind = api.ErrKind
			}
		}
		told.Decoded(l, func(p api.Program, fn int, want api.Errno) {
			wantRefused(t, fmt.Sprint(p), p, []int{a}, nil, fuel, picks, want)
		}, func(p api.Program, fn int) {
			args, answers := []int{a, b}[:p.Funcs[0].Params], []int{b, a}
			switch {
			case fn > 0:
			case kind != api.OK:
				wantRefused(t, fmt.Sprint(picks), p, args, answers, fuel&255, picks, kind)
			default:
				wantRun(t, p, args, answers, fuel&255, picks)
			}
		})
	})
}
