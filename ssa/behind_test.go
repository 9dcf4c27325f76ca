package ssa_test

import (
	"slices"
	"testing"

	"tierline/api"
	"tierline/drawn"
	"tierline/flow"
	"tierline/ssa"
	"tierline/step"
)

// origin of a value: the block that makes it, and how many of that block's instructions are done by then, and that one; a phi is there at the block's beginning, a parameter at the function's.
type origin struct{ block, ins int }

// origins of all values, each of which must be made just once.
func origins(t *testing.T, s api.Ssa) []origin {
	t.Helper()
	l := make([]origin, s.Params, s.Values)
	for b, part := range s.Parts {
		for _, phi := range part.Phis {
			if phi.Id != len(l) {
				t.Fatalf("%s: the phi %v is not counted in its turn", short(s), phi)
			}
			l = append(l, origin{b, 0})
		}
		for i, x := range part.Ins {
			if x.Id == -1 {
				continue
			}
			if x.Id != len(l) {
				t.Fatalf("%s: %v is not counted in its turn", short(s), x)
			}
			l = append(l, origin{b, i + 1})
		}
	}
	if len(l) != s.Values {
		t.Fatalf("%s: %d values are made", short(s), len(l))
	}
	return l
}

// stands: does a block stand on each way to another, itself included?
func stands(above []int, one, other int) bool {
	for other > -1 && other != one {
		other = above[other]
	}
	return other == one
}

// TestBehind (what comes of P8): a value is made at one place, and whatever reads it stands behind that, on each way; what comes to a phi is there behind the block from which it comes.
func TestBehind(t *testing.T) {
	d := drawn.Die(86)
	for i := range 500 {
		p := drawn.Any(&d, i)
		for fn := range p.Funcs {
			s, _ := ssa.Build(p, fn)
			blocks, _ := flow.Blocks(p, fn)
			above, _ := flow.Above(p, fn)
			from := origins(t, s)
			there := func(value, block, ins int) {
				if o := from[value]; value >= s.Params && (o.block == block && o.ins > ins || !stands(above, o.block, block)) {
					t.Fatalf("%v, function %d: %s: %d is not there in the block %d behind %d instructions", p, fn, short(s), value, block, ins)
				}
			}
			for b, part := range s.Parts {
				for _, phi := range part.Phis {
					for i, value := range phi.Args {
						if prev := blocks[b].Prev[i]; prev >= 0 {
							there(value, prev, len(s.Parts[prev].Ins))
						} else if value != phi.Reg {
							t.Fatalf("%v, function %d: %s: from the beginning comes %d for r%d", p, fn, short(s), value, phi.Reg)
						}
					}
				}
				for i, x := range part.Ins {
					for _, value := range []int{x.A, x.B} {
						if value != -1 {
							there(value, b, i)
						}
					}
				}
				for _, value := range part.In {
					if value != -1 {
						there(value, b, 0)
					}
				}
			}
		}
	}
}

// runner: the values of a frame that runs, by what they are at the time.
type runner struct {
	values map[int]int
	last   int // the place that was done last; -1: none
}

// function with values, and what is asked about it.
type function struct {
	ssa    api.Ssa
	blocks []api.Block
	at     [][]int
}

func functionOf(p api.Program, fn int) function {
	var f function
	f.ssa, _ = ssa.Build(p, fn)
	f.blocks, _ = flow.Blocks(p, fn)
	for pc := range p.Funcs[fn].Code {
		at, _ := ssa.At(p, fn, pc)
		f.at = append(f.at, at)
	}
	return f
}

// block of a place.
func (f function) block(pc int) int {
	return slices.IndexFunc(f.blocks, func(b api.Block) bool { return b.From <= pc && pc < b.To })
}

// comeTo the place of a frame: what was done last made a value, and at a block's beginning the phis are what comes from there.
func (r *runner) comeTo(p api.Program, f function, frame api.Frame) {
	from := -1
	if r.last >= 0 {
		from = f.block(r.last)
		part := f.ssa.Parts[from]
		if x := part.Ins[r.last-f.blocks[from].From]; x.Id >= 0 {
			r.values[x.Id] = frame.Regs[p.Funcs[frame.Fn].Code[r.last].Dst]
		}
	} else {
		for i := range f.ssa.Params {
			r.values[i] = frame.Regs[i]
		}
	}
	r.last = frame.Pc
	to := f.block(frame.Pc)
	if f.blocks[to].From != frame.Pc {
		return
	}
	come := map[int]int{}
	for _, phi := range f.ssa.Parts[to].Phis {
		come[phi.Id] = r.values[phi.Args[slices.Index(f.blocks[to].Prev, from)]]
	}
	for id, value := range come {
		r.values[id] = value
	}
}

// TestRuns (P8.1 to P8.3): in runs, each live register holds what its value is, made by instructions and phis as they are come to.
func TestRuns(t *testing.T) {
	d := drawn.Die(87)
	held, rounds := 0, 0
	for i := range 500 {
		p := drawn.Any(&d, i)
		var fs []function
		for fn := range p.Funcs {
			fs = append(fs, functionOf(p, fn))
		}
		s, _ := step.Begin(p, drawn.Args(&d, p), []int{3, 1, -7}, 200)
		var stack []*runner
		for s.Status == api.Running {
			if len(stack) < len(s.Frames) {
				stack = append(stack, &runner{map[int]int{}, -1})
			}
			stack = stack[:len(s.Frames)]
			frame, r := s.Frames[len(s.Frames)-1], stack[len(s.Frames)-1]
			if frame.Pc <= r.last {
				rounds++
			}
			r.comeTo(p, fs[frame.Fn], frame)
			for reg, id := range fs[frame.Fn].at[frame.Pc] {
				if id == -1 {
					continue
				}
				held++
				if value, ok := r.values[id]; !ok || value != frame.Regs[reg] {
					t.Fatalf("%v at %v: r%d is the value %d, which is %d", p, frame, reg, id, value)
				}
			}
			s, _ = step.Next(p, s)
		}
	}
	if min(held, rounds) < 2000 {
		t.Errorf("only %d registers were held against values, only %d times a place was come to again", held, rounds)
	}
}
