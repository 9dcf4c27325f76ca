package step

import (
	"tierline/api"
	"tierline/proof"
)

// Check a state of a program.
func Check(p api.Program, s api.State) api.Errno {
	if e := proof.Check(p); e != api.OK {
		return e
	}
	if !mayBe(s) || !framesMayBe(p, s.Frames) {
		return api.ErrState
	}
	return api.OK
}

// mayBe: what must hold of a state, whatever its program is.
func mayBe(s api.State) bool {
	done := s.Status == api.Done
	return s.Status >= api.Running && s.Status <= api.Deep &&
		s.Fuel >= 0 && s.Fuel <= api.MaxFuel &&
		len(s.Frames) <= api.MaxDepth && len(s.Answers) <= api.MaxAnswers &&
		done == (len(s.Frames) == 0) &&
		(done || s.Value == 0)
}

// framesMayBe: is each frame at a place of the program, and each but the last one at a Call of the next one's function?
func framesMayBe(p api.Program, l []api.Frame) bool {
	for i, f := range l {
		if !hasPlace(p, f) {
			return false
		}
		x := p.Funcs[f.Fn].Code[f.Pc]
		if i+1 < len(l) && (x.Op != api.Call || x.Imm != l[i+1].Fn) {
			return false
		}
	}
	return true
}

// hasPlace: is a frame's function one of the program, and its place one of that?
func hasPlace(p api.Program, f api.Frame) bool {
	return f.Fn >= 0 && f.Fn < len(p.Funcs) && f.Pc >= 0 && f.Pc < len(p.Funcs[f.Fn].Code)
}
