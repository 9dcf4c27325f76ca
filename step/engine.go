package step

import (
	"slices"

	"tierline/api"
)

// engine: a program, and the state that it is in, which belongs to the engine alone.
type engine struct {
	api.State
	program api.Program
}

// own: a state that shares no memory with what was handed in.
func own(s api.State) api.State {
	s.Frames = slices.Clone(s.Frames)
	s.Events = slices.Clone(s.Events)
	s.Answers = slices.Clone(s.Answers)
	return s
}

// begun: a frame of a function that begins.
func begun(fn int, params []int) api.Frame {
	f := api.Frame{Fn: fn}
	copy(f.Regs[:], params)
	return f
}

// last frame: the one that runs.
func (g *engine) last() *api.Frame { return &g.Frames[len(g.Frames)-1] }

// at: the instruction at a frame's place.
func (g *engine) at(f *api.Frame) api.Instr { return g.program.Funcs[f.Fn].Code[f.Pc] }

// step of a state that is Running, and whose last frame is at a place of its function.
func (g *engine) step() {
	if g.Fuel == 0 {
		g.Status = api.Empty
		return
	}
	f := g.last()
	x := g.at(f)
	if g.Status = barred(x, f.Regs[x.A], f.Regs[x.B]); g.Status != api.Running {
		return
	}
	g.Fuel--
	g.do(x, f)
}

// barred: the status of an instruction that cannot be done with these numbers, so that it takes no fuel; Running: it can.
func barred(x api.Instr, a, b int) int {
	switch x.Op {
	case api.Div:
		if b == 0 {
			return api.Zero
		}
	case api.Load, api.Store:
		if a < 0 || a >= api.Memory {
			return api.Outside
		}
	}
	return api.Running
}

// do an instruction of the last frame that is not barred.
func (g *engine) do(x api.Instr, f *api.Frame) {
	a, b := f.Regs[x.A], f.Regs[x.B]
	switch x.Op {
	case api.Load:
		put(f, x.Dst, g.Memory[a])
	case api.Store:
		g.Memory[a] = b
		f.Pc++
	case api.Jump:
		f.Pc = x.Imm
	case api.If:
		f.Pc++
		if a != 0 {
			f.Pc = x.Imm
		}
	case api.Call:
		g.call(x.Imm, a, b)
	case api.Host:
		put(f, x.Dst, g.tell(a))
	case api.Ret:
		g.ret(a)
	default:
		// What could be refused is barred, or is none of these ops.
		v, _ := Make(x.Op, a, b, x.Imm)
		put(f, x.Dst, v)
	}
}

// put a number into a frame's register, and go on to its next place.
func put(f *api.Frame, reg, v int) {
	f.Regs[reg] = v
	f.Pc++
}

// call: the one who calls stays at its Call, as that says where what is made belongs.
func (g *engine) call(fn, a, b int) {
	if len(g.Frames) == api.MaxDepth {
		g.Status = api.Deep
		return
	}
	params := []int{a, b}[:g.program.Funcs[fn].Params]
	g.Frames = append(g.Frames, begun(fn, params))
}

// tell the host a number; what does it answer?
func (g *engine) tell(a int) int {
	g.Events = append(g.Events, a)
	if len(g.Answers) == 0 {
		return 0
	}
	v := g.Answers[0]
	g.Answers = g.Answers[1:]
	return v
}

func (g *engine) ret(v int) {
	g.Frames = g.Frames[:len(g.Frames)-1]
	if len(g.Frames) == 0 {
		g.Status, g.Value = api.Done, v
		return
	}
	f := g.last()
	put(f, g.at(f).Dst, v)
}
