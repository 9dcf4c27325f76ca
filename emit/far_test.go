package emit_test

import (
	"math"
	"testing"

	"tierline/api"
	"tierline/drawn"
	"tierline/emit"
	"tierline/told"
)

// TestFar (P13.3): where it leaves, and why, at the bounds of the fuel, too.
func TestFar(t *testing.T) {
	const host = "func 1 1\nadd r0 r0 r0\nhost r0 r0\nadd r0 r0 r0\nret r0\n"
	const divide = "func 2 2\nadd r0 r0 r1\ndiv r0 r0 r1\nadd r0 r0 r0\nret r0\n"
	const load = "func 1 1\nload r0 r0\nadd r0 r0 r0\nret r0\n"
	const store = "func 2 2\nadd r1 r1 r1\nstore r0 r1\nret r0\n"
	const call = "func 1 1\ncall r0 0 r0 r0\nret r0\n"
	const through = "func 1 1\nadd r0 r0 r0\nif r0 1\nret r0\n"
	const round = "func 1 1\njump 0\n"
	for _, c := range []struct {
		text     string
		args     []int
		fuel, at int
		pc, n    int
		why      string
	}{
		{told.Counted, []int{10}, 100, 0, 3, 43, "end"},
		{told.Counted, []int{10}, 43, 0, 3, 43, "end"},
		{told.Counted, []int{10}, 42, 0, 2, 42, "fuel"},
		{told.Counted, []int{10}, 41, 0, 4, 39, "fuel"},
		{told.Counted, []int{10}, 3, 0, 4, 3, "fuel"},
		{told.Counted, []int{10}, 2, 0, 2, 2, "fuel"},
		{told.Counted, []int{10}, 1, 0, 0, 0, "fuel"},
		{told.Counted, []int{10}, 0, 0, 0, 0, "fuel"},
		{told.Counted, []int{10}, 100, 1, 1, 0, "no block"},
		{told.Counted, []int{10}, 100, 2, 3, 41, "end"},
		{told.Counted, []int{10}, 100, 3, 3, 40, "end"},
		{told.Counted, []int{10}, 100, 4, 5, 0, "no block"},
		{told.Counted, []int{10}, 100, 5, 6, 0, "no block"},
		{told.Counted, []int{0}, 100, 0, 3, 3, "end"},
		{host, []int{3}, 9, 0, 1, 1, "end"},
		{host, []int{3}, 9, 1, 1, 0, "no block"},
		{host, []int{3}, 9, 2, 3, 1, "end"},
		{host, []int{3}, 2, 2, 2, 0, "fuel"},
		{call, []int{3}, 1, 0, 0, 0, "end"},
		{call, []int{3}, 0, 0, 0, 0, "end"},
		{divide, []int{6, 0}, 9, 0, 1, 1, "zero"},
		{divide, []int{6, 0}, 2, 0, 0, 0, "fuel"},
		{divide, []int{6, 2}, 3, 0, 3, 3, "end"},
		{load, []int{-1}, 9, 0, 0, 0, "outside"},
		{load, []int{0}, 9, 0, 2, 2, "end"},
		{load, []int{15}, 9, 0, 2, 2, "end"},
		{load, []int{16}, 9, 0, 0, 0, "outside"},
		{store, []int{-1, 3}, 9, 0, 1, 1, "outside"},
		{store, []int{15, 3}, 9, 0, 2, 2, "end"},
		{store, []int{math.MinInt, 3}, 9, 0, 1, 1, "outside"},
		{store, []int{1 << 61, 3}, 9, 0, 1, 1, "outside"},
		{through, []int{0}, 9, 0, 2, 2, "end"},
		{through, []int{1}, 9, 0, 1, 9, "fuel"},
		{round, []int{1}, api.MaxFuel, 0, 0, api.MaxFuel, "fuel"},
	} {
		p := told.Text(t, c.text)
		s := walk(t, p, told.Begin(t, p, c.args, nil, c.fuel), c.at)
		left, n, why := wantFar(t, p, words(t, p), s)
		if top(left).Pc != c.pc || n != c.n || why != c.why || left.Fuel != s.Fuel-n || left.Status != api.Running {
			t.Errorf("%q %v with %d behind %d steps: to %v, %d steps, %s, want place %d, %d, %s", c.text, c.args, c.fuel, c.at, left, n, why, c.pc, c.n, c.why)
		}
	}
}

// TestFarKeeps (P13.3): frames, events and answers stay as they are, and so do registers that are not live.
func TestFarKeeps(t *testing.T) {
	s := full()
	top(s).Pc, top(s).Regs[1] = 0, 3
	want := full()
	want.Memory[3], want.Fuel = 300, 75
	top(want).Pc, top(want).Regs[1] = 2, 3
	if left, n, e := emit.Far(told.Text(t, calling), s); e != api.OK || n != 2 || !same(left, want) {
		t.Errorf("Far:\n%v %d %v, want\n%v", left, n, e, want)
	}
}

// TestFarUnreached (P13.3): no block begins at a place that is not reached, even where a jump leads to it.
func TestFarUnreached(t *testing.T) {
	p := told.Text(t, calling)
	for _, pc := range []int{3, 4} {
		s := full()
		top(s).Pc = pc
		if left, n, e := emit.Far(p, s); e != api.OK || n != 0 || !same(left, s) {
			t.Errorf("Far(%v): %v %d %v, want no step", s, left, n, e)
		}
	}
}

// TestFarTold (P13.3): from drawn states that may be, be they those of a run or not, held against the chapter's words.
func TestFarTold(t *testing.T) {
	d := drawn.Die(131)
	seen := map[string]int{}
	for i := range 12000 {
		p := drawn.Any(&d, i)
		fn := d.Below(len(p.Funcs))
		s := api.State{Frames: []api.Frame{{Fn: fn, Pc: d.Below(len(p.Funcs[fn].Code))}}, Fuel: d.Below(60)}
		for r := range api.MaxRegs {
			s.Frames[0].Regs[r] = d.Below(20) * d.Below(2)
		}
		if d.Below(3) == 0 {
			s.Frames[0].Regs[d.Below(api.MaxRegs)] = edges[d.Below(len(edges))]
		}
		want, n, why := toldFar(p, s)
		if left, steps, e := emit.Far(p, s); e != api.OK || steps != n || !same(left, want) {
			t.Fatalf("Far(%v, %v):\n%v %d %v, want\n%v %d", p, s, left, steps, e, want, n)
		}
		seen[why]++
	}
	for _, why := range []string{"no block", "fuel", "zero", "outside", "end"} {
		if seen[why] < 50 {
			t.Errorf("it leaves only %d times for %q", seen[why], why)
		}
	}
}
