package fold_test

import (
	"testing"

	"tierline/api"
	"tierline/code"
	"tierline/drawn"
	"tierline/fold"
	"tierline/ssa"
	"tierline/step"
	"tierline/told"
)

// TestRefuses (P9.3): functions that are none, behind what proof's Check refuses.
func TestRefuses(t *testing.T) {
	told.Refused(t, func(p api.Program, fn int, want api.Errno) { wantRefused(t, p, fn, want) })
}

// seen in drawn functions: how many values of each kind there are, phis among them, blocks that are not met, and answers that are less than others that are allowed.
type seen struct {
	kinds, phis [3]int
	unmet, less int
}

func (s *seen) look(w teller, h holding) {
	for _, fact := range h.facts {
		s.kinds[fact.Kind]++
	}
	for b, part := range w.s.Parts {
		if !h.met[b] {
			s.unmet++
			continue
		}
		for _, phi := range part.Phis {
			s.phis[h.facts[phi.Id].Kind]++
		}
	}
	if !same(h, w.greatest()) {
		s.less++
	}
}

// TestDrawn (P9.1 to P9.3): drawn programs, held against the chapter's words; nothing else that these allow is less.
func TestDrawn(t *testing.T) {
	d := drawn.Die(94)
	var s seen
	for i := range 1500 {
		p := settled(&d, i)
		for fn := range p.Funcs {
			w, h := wantTold(t, p, fn)
			if !same(h, w.next(h)) {
				t.Fatalf("%v, function %d: %s does not hold, but %s would follow", p, fn, short(h), short(w.next(h)))
			}
			if !below(h, w.greatest()) {
				t.Fatalf("%v, function %d: %s is not below %s", p, fn, short(h), short(w.greatest()))
			}
			s.look(w, h)
		}
	}
	if min(s.kinds[api.Never], s.kinds[api.Known], s.kinds[api.Many], s.phis[api.Known], s.phis[api.Many], s.unmet, s.less) < 500 || s.phis[api.Never] < 5 {
		t.Errorf("too little is seen: %+v", s)
	}
}

// held: what is known of a function, and of which values its registers are, by places.
type held struct {
	facts []api.Fact
	made  []int
	at    [][]int
	met   []bool // by places
}

func heldOf(p api.Program, fn int) held {
	var h held
	places := len(p.Funcs[fn].Code)
	h.made, h.met = make([]int, places), make([]bool, places)
	s, _ := ssa.Build(p, fn)
	facts, met, _ := fold.Facts(p, fn)
	h.facts = facts
	for b, part := range s.Parts {
		for _, x := range part.Ins {
			h.made[x.Pc], h.met[x.Pc] = x.Id, met[b]
		}
	}
	for pc := range places {
		at, _ := ssa.At(p, fn, pc)
		h.at = append(h.at, at)
	}
	return h
}

// TestRuns (what comes of P9): in runs, what is Known is that, what is Never is not made, and a block that is not met is not come to.
func TestRuns(t *testing.T) {
	d := drawn.Die(96)
	known, steps := 0, 0
	for i := range 900 {
		p := settled(&d, i)
		var l []held
		for fn := range p.Funcs {
			l = append(l, heldOf(p, fn))
		}
		s, _ := step.Begin(p, drawn.Args(&d, p), []int{3, 1, -7}, 150)
		for s.Status == api.Running {
			frame := s.Frames[len(s.Frames)-1]
			h := l[frame.Fn]
			hold := func(value, number int) {
				if fact := h.facts[value]; fact.Kind == api.Never || fact.Kind == api.Known && fact.Value != number {
					t.Fatalf("%v at %v: the value %d is %d, which is %v", p, frame, value, number, fact)
				} else if fact.Kind == api.Known {
					known++
				}
			}
			if !h.met[frame.Pc] {
				t.Fatalf("%v comes to %v, which is not met", p, frame)
			}
			for reg, value := range h.at[frame.Pc] {
				if value >= 0 {
					hold(value, frame.Regs[reg])
				}
			}
			next, _ := step.Next(p, s)
			// A Call makes its value only when it comes back, which the place behind it shows, if the register is live there.
			if x := p.Funcs[frame.Fn].Code[frame.Pc]; h.made[frame.Pc] >= 0 && x.Op != api.Call && next.Fuel < s.Fuel {
				hold(h.made[frame.Pc], next.Frames[len(next.Frames)-1].Regs[x.Dst])
			}
			s = next
			steps++
		}
	}
	if min(known, steps) < 20000 {
		t.Errorf("only %d known values in %d steps", known, steps)
	}
}

// FuzzFold (P9.1 to P9.3): whatever the program is, the answers are those of the chapter's words.
func FuzzFold(f *testing.F) {
	d := drawn.Die(95)
	for i := range 21 {
		l, _ := code.Encode(settled(&d, i))
		f.Add(l)
	}
	f.Fuzz(func(t *testing.T, l []byte) {
		told.Decoded(l, func(p api.Program, fn int, want api.Errno) { wantRefused(t, p, fn, want) },
			func(p api.Program, fn int) { wantTold(t, p, fn) })
	})
}
