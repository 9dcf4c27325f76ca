package ssa_test

import (
	"fmt"
	"slices"
	"strings"
	"testing"

	"tierline/api"
	"tierline/drawn"
	"tierline/flow"
	"tierline/ssa"
	"tierline/told"
)

const (
	counted = told.Counted
	diamond = told.Diamond
	nested  = told.Nested
	crossed = told.Crossed
	still   = told.Still
)

// teller of a function's values, by their names: p1 is the parameter r1, i7 what the instruction at the place 7 makes, f3.1 the phi of the block 3 for r1.
type teller struct {
	p      api.Program
	f      api.Func
	blocks []api.Block
	live   []int
	phis   []*named
	gone   [][2]string // phis, and what stands where they stood, in the order in which they went
	names  []string    // of all values that are left, in their order
}

// named phi, and the names of what comes to it.
type named struct {
	name       string
	block, reg int
	args       []string
}

// tellerOf a function, by its words (P8.1, P8.2). Of the phis that may go the die says which one goes first, as the chapter does not.
func tellerOf(d *drawn.Die, p api.Program, fn int) *teller {
	w := &teller{p: p, f: p.Funcs[fn]}
	w.blocks, _ = flow.Blocks(p, fn)
	w.live, _ = flow.Live(p, fn)
	for b, block := range w.blocks {
		for r := range api.MaxRegs {
			if len(block.Prev) < 2 || w.live[block.From]>>r&1 == 0 {
				continue
			}
			phi := &named{name: fmt.Sprintf("f%d.%d", b, r), block: b, reg: r}
			for _, from := range block.Prev {
				phi.args = append(phi.args, w.comes(from, r))
			}
			w.phis = append(w.phis, phi)
		}
	}
	for w.goes(d) {
	}
	w.names = w.left()
	return w
}

// comes: the name of what a register is behind a block; -1: the function's beginning.
func (w *teller) comes(from, reg int) string {
	if from < 0 {
		return fmt.Sprint("p", reg)
	}
	return w.is(from, w.blocks[from].To, reg)
}

// is: the name of what a register is ahead of a place of a block.
func (w *teller) is(block, pc, reg int) string {
	for at := pc - 1; at >= w.blocks[block].From; at-- {
		if told.SetBy(w.f.Code[at], reg) {
			return fmt.Sprint("i", at)
		}
	}
	if len(w.blocks[block].Prev) > 1 {
		return fmt.Sprintf("f%d.%d", block, reg)
	}
	return w.comes(w.blocks[block].Prev[0], reg)
}

// others: the names that come to a phi, each once, without its own.
func others(phi *named) []string {
	var l []string
	for _, arg := range phi.args {
		if arg != phi.name && !slices.Contains(l, arg) {
			l = append(l, arg)
		}
	}
	return l
}

// goes: takes a phi away to which only one other value comes; was there one?
func (w *teller) goes(d *drawn.Die) bool {
	var may []int
	for i, phi := range w.phis {
		if len(others(phi)) == 1 {
			may = append(may, i)
		}
	}
	if len(may) == 0 {
		return false
	}
	i := may[d.Below(len(may))]
	name, other := w.phis[i].name, others(w.phis[i])[0]
	w.gone = append(w.gone, [2]string{name, other})
	w.phis = slices.Delete(w.phis, i, i+1)
	for _, phi := range w.phis {
		for j := range phi.args {
			if phi.args[j] == name {
				phi.args[j] = other
			}
		}
	}
	return true
}

// left: the names of all values that are, in their order.
func (w *teller) left() []string {
	var l []string
	for r := range w.f.Params {
		l = append(l, fmt.Sprint("p", r))
	}
	for b, block := range w.blocks {
		for _, phi := range w.phis {
			if phi.block == b {
				l = append(l, phi.name)
			}
		}
		for pc := block.From; pc < block.To; pc++ {
			if w.sets(pc) {
				l = append(l, fmt.Sprint("i", pc))
			}
		}
	}
	return l
}

func (w *teller) sets(pc int) bool { return told.SetBy(w.f.Code[pc], w.f.Code[pc].Dst) }

// number of a value; -1, if there is none of that name.
func (w *teller) number(name string) int {
	for _, g := range w.gone {
		if name == g[0] {
			name = g[1]
		}
	}
	return slices.Index(w.names, name)
}

// at: which value each register is ahead of a reached place of a block.
func (w *teller) at(block, pc int) (l [api.MaxRegs]int) {
	for r := range l {
		l[r] = -1
		if w.live[pc]>>r&1 != 0 {
			l[r] = w.number(w.is(block, pc, r))
		}
	}
	return l
}

// built: the function with values.
func (w *teller) built() api.Ssa {
	s := api.Ssa{Params: w.f.Params, Values: len(w.names)}
	for b, block := range w.blocks {
		part := api.Part{Block: b, In: w.at(b, block.From)}
		for _, phi := range w.phis {
			if phi.block != b {
				continue
			}
			one := api.Phi{Reg: phi.reg, Id: w.number(phi.name)}
			for _, arg := range phi.args {
				one.Args = append(one.Args, w.number(arg))
			}
			part.Phis = append(part.Phis, one)
		}
		for pc := block.From; pc < block.To; pc++ {
			part.Ins = append(part.Ins, w.ins(b, pc))
		}
		s.Parts = append(s.Parts, part)
	}
	return s
}

func (w *teller) ins(block, pc int) api.Ins {
	x := w.f.Code[pc]
	reads := []int{-1, -1}
	for i, r := range told.ReadBy(w.p, x) {
		reads[i] = w.number(w.is(block, pc, r))
	}
	id := -1
	if w.sets(pc) {
		id = w.number(fmt.Sprint("i", pc))
	}
	return api.Ins{Op: x.Op, Id: id, A: reads[0], B: reads[1], Imm: x.Imm, Pc: pc}
}

// wantTold: all answers about a function are those of the chapter's words.
func wantTold(t *testing.T, d *drawn.Die, p api.Program, fn int) api.Ssa {
	t.Helper()
	w := tellerOf(d, p, fn)
	want := w.built()
	s, e := ssa.Build(p, fn)
	if e != api.OK || fmt.Sprint(s) != fmt.Sprint(want) {
		t.Fatalf("Build(%v, %d): %v %v, want %v", p, fn, s, e, want)
	}
	for pc := range p.Funcs[fn].Code {
		want, err := "[]", api.ErrNone
		block := slices.IndexFunc(w.blocks, func(b api.Block) bool { return b.From <= pc && pc < b.To })
		if block >= 0 {
			want, err = fmt.Sprint(w.at(block, pc)), api.OK
		}
		if l, e := ssa.At(p, fn, pc); e != err || fmt.Sprint(l) != want {
			t.Fatalf("At(%v, %d, %d): %v %v, want %s %v", p, fn, pc, l, e, want, err)
		}
	}
	return s
}

// dash: a value, or - for none.
func dash(value int) string {
	if value < 0 {
		return "-"
	}
	return fmt.Sprint(value)
}

// byRegister: what registers are, but for those that are none.
func byRegister(regs []int) string {
	var l []string
	for r, value := range regs {
		if value != -1 {
			l = append(l, fmt.Sprintf("r%d=%d", r, value))
		}
	}
	return strings.Join(l, " ")
}

// short form of a function with values: how many there are, and for each block its phis (register=value(what comes)), its instructions (place:value(A B)), and what registers are at its beginning.
func short(s api.Ssa) string {
	text := fmt.Sprint(s.Values)
	for _, part := range s.Parts {
		var phis, ins []string
		for _, phi := range part.Phis {
			phis = append(phis, fmt.Sprintf("r%d=%d(%s)", phi.Reg, phi.Id, strings.Trim(fmt.Sprint(phi.Args), "[]")))
		}
		for _, x := range part.Ins {
			ins = append(ins, fmt.Sprintf("%d:%s(%s %s)", x.Pc, dash(x.Id), dash(x.A), dash(x.B)))
		}
		text += fmt.Sprintf(" | %s; %s; %s", strings.Join(phis, " "), strings.Join(ins, " "), byRegister(part.In[:]))
	}
	return text
}

func wantShort(t *testing.T, text string, fn int, want string) {
	t.Helper()
	p := told.Text(t, text)
	s, e := ssa.Build(p, fn)
	if e != api.OK || short(s) != want || s.Params != p.Funcs[fn].Params {
		t.Errorf("Build(%q, %d): %d parameters, %s %v, want %s", text, fn, s.Params, short(s), e, want)
	}
}

// phisOf a function with values: how many there are.
func phisOf(s api.Ssa) int {
	n := 0
	for _, part := range s.Parts {
		n += len(part.Phis)
	}
	return n
}
