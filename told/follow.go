package told

import (
	"slices"

	"tierline/api"
	"tierline/flow"
	"tierline/ssa"
	"tierline/step"
)

// beginning of a function: no block leads from there, and no place was done ahead of it.
const beginning = -1

// Follow a run from its beginning on: what values are is kept in cells as they are made by instructions, and by phis as blocks are come to; each frame has cells of its own. By functions, and by values, it is told in which cell each one is kept. Ahead of each instruction the live registers must be what the cells of their values hold. It answers how many registers were held against cells, and how often a frame went back to an earlier place, or to the same.
func Follow(t tester, p api.Program, s api.State, cells [][]int) (held, back int) {
	t.Helper()
	var fs []followed
	for fn := range p.Funcs {
		fs = append(fs, followedOf(p, fn, cells[fn]))
	}
	var stack []*follower
	for s.Status == api.Running {
		if len(stack) < len(s.Frames) {
			stack = append(stack, &follower{map[int]int{}, beginning})
		}
		stack = stack[:len(s.Frames)]
		frame, w := s.Frames[len(s.Frames)-1], stack[len(s.Frames)-1]
		f := fs[frame.Fn]
		if frame.Pc <= w.last {
			back++
		}
		w.comeTo(f, frame)
		for reg, value := range f.at[frame.Pc] {
			if value < 0 {
				continue
			}
			held++
			if kept, ok := w.cells[f.cells[value]]; !ok || kept != frame.Regs[reg] {
				t.Fatalf("%v at %v: r%d is the value %d, which is kept as %d", p, frame, reg, value, kept)
				return held, back
			}
		}
		s, _ = step.Next(p, s)
	}
	return held, back
}

// followed: a function with values, in which cells they are kept, and which ones registers are, by places.
type followed struct {
	code   []api.Instr
	ssa    api.Ssa
	blocks []api.Block
	at     [][]int
	cells  []int
}

func followedOf(p api.Program, fn int, cells []int) followed {
	f := followed{code: p.Funcs[fn].Code, cells: cells}
	f.ssa, _ = ssa.Build(p, fn)
	f.blocks, _ = flow.Blocks(p, fn)
	for pc := range f.code {
		at, _ := ssa.At(p, fn, pc)
		f.at = append(f.at, at)
	}
	return f
}

// block of a place.
func (f followed) block(pc int) int {
	return slices.IndexFunc(f.blocks, func(b api.Block) bool { return b.From <= pc && pc < b.To })
}

// follower of a frame: what its cells hold, and the place that was done last.
type follower struct {
	cells map[int]int
	last  int
}

// comeTo the place of a frame.
func (w *follower) comeTo(f followed, frame api.Frame) {
	from := beginning
	if w.last == beginning {
		w.begin(f, frame)
	} else {
		from = f.block(w.last)
		if x := f.ssa.Parts[from].Ins[w.last-f.blocks[from].From]; x.Id >= 0 {
			w.cells[f.cells[x.Id]] = frame.Regs[f.code[w.last].Dst]
		}
	}
	w.last = frame.Pc
	if to := f.block(frame.Pc); f.blocks[to].From == frame.Pc {
		w.join(f, frame, from, to)
	}
}

// begin: parameters are kept, but for those that only come to phis, which are told from the frame, as they never stand ahead of an instruction.
func (w *follower) begin(f followed, frame api.Frame) {
	for _, value := range f.at[0] {
		if value >= 0 && value < f.ssa.Params {
			w.cells[f.cells[value]] = frame.Regs[value]
		}
	}
}

// join: the phis of a block are what comes from another one, all at a time.
func (w *follower) join(f followed, frame api.Frame, from, to int) {
	phis := f.ssa.Parts[to].Phis
	var come []int
	for _, phi := range phis {
		value := phi.Args[slices.Index(f.blocks[to].Prev, from)]
		if from == beginning {
			come = append(come, frame.Regs[value])
		} else {
			come = append(come, w.cells[f.cells[value]])
		}
	}
	for i, phi := range phis {
		w.cells[f.cells[phi.Id]] = come[i]
	}
}
