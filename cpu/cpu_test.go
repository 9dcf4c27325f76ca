package cpu_test

import (
	"fmt"
	"slices"
	"testing"

	"tierline/api"
	"tierline/cpu"
	"tierline/drawn"
)

// wantTold: a step and a run are what the chapter's words say.
func wantTold(t *testing.T, words []int, c api.Cpu, most int) (api.Errno, api.Errno) {
	t.Helper()
	want, e := toldStep(words, c)
	if got, f := cpu.Step(words, c); f != e || got != want {
		t.Fatalf("Step(%x, %v):\n%v %v, want\n%v %v", words, c, got, f, want, e)
	}
	ran, steps, f := toldRun(words, c, most)
	if got, n, g := cpu.Run(words, c, most); g != f || n != steps || got != ran {
		t.Fatalf("Run(%x, %v, %d):\n%v %d %v, want\n%v %d %v", words, c, most, got, n, g, ran, steps, f)
	}
	return e, f
}

// TestOps (P12.2): drawn instructions of each op.
func TestOps(t *testing.T) {
	d := drawn.Die(122)
	for op := api.RAdd; op <= api.REcall; op++ {
		done := 0
		for range 400 {
			if e, _ := wantTold(t, words(t, instr(&d, op)), at(machine(&d, 1), 0), 1); e == api.OK {
				done++
			}
		}
		if done < 50 {
			t.Errorf("op %d is done only %d times", op, done)
		}
	}
}

// TestDrawn (P12.2, P12.3, P12.4): drawn words and machines, held against the chapter's words.
func TestDrawn(t *testing.T) {
	d := drawn.Die(123)
	var stepped, ran [api.ErrSteps + 1]int
	for range 12000 {
		ws := code(t, &d, 1+d.Below(60))
		e, f := wantTold(t, ws, machine(&d, len(ws)), d.Below(300)-2)
		stepped[e]++
		ran[f]++
	}
	for _, e := range []api.Errno{api.OK, api.ErrState, api.ErrKind, api.ErrRange, api.ErrForm} {
		if stepped[e] < 10 || ran[e] < 100 {
			t.Errorf("too little is seen of %v: %v, %v", e, stepped, ran)
		}
	}
	if ran[api.ErrSteps] < 100 {
		t.Errorf("too few runs go on and on: %v", ran)
	}
}

// TestOneByOne (P12.3, P12.4): a run is as many steps, one behind another.
func TestOneByOne(t *testing.T) {
	d := drawn.Die(124)
	long := 0
	for range 6000 {
		ws := code(t, &d, 1+d.Below(60))
		c := machine(&d, len(ws))
		want, n, e := cpu.Run(ws, c, 500)
		if e != api.OK {
			continue
		}
		if n > 10 {
			long++
		}
		for i := range n {
			if c.Halted {
				t.Fatalf("it has stopped behind %d steps, not behind %d: %x", i, n, ws)
			}
			if c, e = cpu.Step(ws, c); e != api.OK {
				t.Fatalf("the step %d of %x is refused: %v", i, ws, e)
			}
		}
		if c.Regs[0] = 0; c != want {
			t.Fatalf("Run(%x):\n%v, want\n%v", ws, want, c)
		}
	}
	if long < 100 {
		t.Errorf("only %d runs are long", long)
	}
}

// TestGiven (what comes of P12): the words stay as they are, their spare room too, and asked again the answers are the same.
func TestGiven(t *testing.T) {
	d := drawn.Die(125)
	for range 300 {
		ws := code(t, &d, 1+d.Below(60))
		room := append(slices.Clone(ws), 77, 77)
		c := machine(&d, len(ws))
		ask := func() string {
			given := room[:len(ws)]
			checked := cpu.Check(given)
			one, e := cpu.Step(given, c)
			all, n, f := cpu.Run(given, c, 200)
			return fmt.Sprint(int(checked), one, int(e), all, n, int(f))
		}
		want := ask()
		if !slices.Equal(room[:len(ws)], ws) || !slices.Equal(room[len(ws):], []int{77, 77}) {
			t.Fatalf("%x was changed to %x", ws, room)
		}
		wantTold(t, code(t, &d, 30), machine(&d, 30), 100)
		if again := ask(); again != want {
			t.Fatalf("asked again of %x: %s, want %s", ws, again, want)
		}
	}
}

// FuzzCpu (P12.1 to P12.4): whatever the words and the machine are, the answers are those of the chapter's words.
func FuzzCpu(f *testing.F) {
	for i := range 40 {
		f.Add(uint64(i), 115, 0, 5*i, i == 7)
	}
	f.Add(uint64(99), -1, -1, -1, false)
	f.Fuzz(func(t *testing.T, seed uint64, w, pc, most int, halted bool) {
		d := drawn.Die(seed)
		ws := code(t, &d, 1+d.Below(60))
		ws[d.Below(len(ws))] = w
		c := machine(&d, len(ws))
		wantTold(t, ws, c, min(most, 2000))
		c.Pc, c.Halted = pc, halted
		wantTold(t, ws, c, min(most, 2000))
	})
}
