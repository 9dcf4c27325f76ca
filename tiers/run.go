package tiers

import (
	"tierline/api"
	"tierline/cpu"
	"tierline/emit"
	"tierline/step"
)

// run of a program: the state that it is in, which functions are kept compiled, how often machine code was entered, and how many steps it did.
type run struct {
	api.State
	program api.Program
	kept    cache
	natives int
	walked  int
}

// last frame: the one that runs.
func (r *run) last() api.Frame { return r.Frames[len(r.Frames)-1] }

// pick: does what it says with a run that is Running.
func (r *run) pick(kind int) {
	switch kind {
	case api.Step:
		r.walk(1)
	case api.Native:
		r.native()
	case api.Compile:
		r.kept.keep(r.program, r.last().Fn)
	case api.Drop:
		r.kept.drop()
	case api.Clear:
		r.kept.clear()
	}
}

// walk so many steps. None is refused: a right program stays in states that may be.
func (r *run) walk(steps int) { r.State, _ = step.Walk(r.program, r.State, steps) }

// native: machine code goes as far as it goes, if that of the last frame's function is kept, and may be entered at its place.
func (r *run) native() {
	at := r.last()
	f, ok := r.kept.functions[at.Fn]
	if !ok || !f.begins(at.Pc) {
		return
	}
	// Nothing is refused: the words are made for states of runs, and whatever the fuel is, they stop within the steps that a machine may have.
	c, _ := emit.Enter(r.program, r.State)
	c, _, _ = cpu.Run(f.words, c, api.MaxSteps)
	left, _ := emit.Leave(r.program, r.State, c)
	r.natives++
	// Each step that machine code does takes one from the fuel.
	r.walked += r.Fuel - left.Fuel
	r.State = left
}

// end: goes on, step by step, till the run is not Running.
func (r *run) end() api.Outcome {
	// Each step but the last one takes from the fuel, so there are no more.
	r.walk(r.Fuel + 1)
	tidy(r.program, r.Frames)
	return api.Outcome{State: r.State, Natives: r.natives, Walked: r.walked, Kept: r.kept.order}
}
