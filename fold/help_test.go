package fold_test

import (
	"fmt"
	"slices"
	"strings"
	"testing"

	"tierline/api"
	"tierline/drawn"
	"tierline/flow"
	"tierline/fold"
	"tierline/ssa"
	"tierline/step"
	"tierline/told"
)

// holding: facts about all values, and which blocks are met.
type holding struct {
	facts []api.Fact
	met   []bool
}

// same: no facts and blocks are others.
func same(one, other holding) bool {
	return slices.Equal(one.facts, other.facts) && slices.Equal(one.met, other.met)
}

// teller of what P9.1 and P9.2 say of a function.
type teller struct {
	s      api.Ssa
	blocks []api.Block
}

func tellerOf(p api.Program, fn int) teller {
	var w teller
	w.s, _ = ssa.Build(p, fn)
	w.blocks, _ = flow.Blocks(p, fn)
	return w
}

// all values have one fact, and all blocks are met or none is.
func (w teller) all(fact api.Fact, met bool) holding {
	return holding{slices.Repeat([]api.Fact{fact}, w.s.Values), slices.Repeat([]bool{met}, len(w.blocks))}
}

// next: what follows from facts and blocks, all at a time.
func (w teller) next(h holding) holding {
	n := w.all(api.Fact{Kind: api.Never}, false)
	for i := range w.s.Params {
		n.facts[i].Kind = api.Many
	}
	n.met[0] = true
	for b, part := range w.s.Parts {
		if !h.met[b] {
			continue
		}
		for _, to := range w.goes(h, b) {
			n.met[to] = true
		}
		for _, phi := range part.Phis {
			n.facts[phi.Id] = w.phi(h, b, phi)
		}
		for _, x := range part.Ins {
			if x.Id >= 0 {
				n.facts[x.Id] = w.made(h, x)
			}
		}
	}
	return n
}

// goes: the blocks to which a met one goes (P9.2).
func (w teller) goes(h holding, b int) []int {
	next := w.blocks[b].Next
	ins := w.s.Parts[b].Ins
	x := ins[len(ins)-1]
	if x.Op != api.If || h.facts[x.A].Kind == api.Many {
		return next
	}
	if h.facts[x.A].Kind == api.Never {
		return nil
	}
	place := x.Imm
	if h.facts[x.A].Value == 0 {
		place = x.Pc + 1
	}
	var l []int
	for _, to := range next {
		if w.blocks[to].From == place {
			l = append(l, to)
		}
	}
	return l
}

// phi of a met block (P9.1).
func (w teller) phi(h holding, b int, phi api.Phi) api.Fact {
	var others []api.Fact
	for i, from := range w.blocks[b].Prev {
		goes := from < 0 || h.met[from] && slices.Contains(w.goes(h, from), b)
		if fact := h.facts[phi.Args[i]]; goes && fact.Kind != api.Never {
			others = append(others, fact)
		}
	}
	if len(others) == 0 {
		return api.Fact{}
	}
	for _, fact := range others {
		if fact.Kind == api.Many || fact.Value != others[0].Value {
			return api.Fact{Kind: api.Many}
		}
	}
	return others[0]
}

// made: what an instruction of a met block makes (P9.1).
func (w teller) made(h holding, x api.Ins) api.Fact {
	var reads []api.Fact
	for _, value := range []int{x.A, x.B} {
		if value >= 0 {
			reads = append(reads, h.facts[value])
		}
	}
	of := func(kind int) bool {
		return slices.ContainsFunc(reads, func(f api.Fact) bool { return f.Kind == kind })
	}
	switch {
	case of(api.Never), x.Op == api.Div && reads[1].Kind == api.Known && reads[1].Value == 0:
		return api.Fact{}
	case x.Op == api.Load, x.Op == api.Call, x.Op == api.Host, of(api.Many):
		return api.Fact{Kind: api.Many}
	}
	reads = append(reads, api.Fact{}, api.Fact{})
	value, e := step.Make(x.Op, reads[0].Value, reads[1].Value, x.Imm)
	if e != api.OK {
		panic(fmt.Sprint(x, e))
	}
	return api.Fact{Kind: api.Known, Value: value}
}

// on: what follows, and what follows from that, until nothing else does.
func (w teller) on(h holding) holding {
	for n := w.next(h); !same(n, h); n = w.next(h) {
		h = n
	}
	return h
}

// least of all that is allowed: from nothing, only what follows comes.
func (w teller) least() holding { return w.on(w.all(api.Fact{}, false)) }

// greatest of all that is allowed: of everything, only what does not follow goes.
func (w teller) greatest() holding { return w.on(w.all(api.Fact{Kind: api.Many}, true)) }

// below: is no fact and no block of one greater than that of the other?
func below(one, other holding) bool {
	for i, fact := range one.facts {
		if fact != other.facts[i] && fact.Kind >= other.facts[i].Kind {
			return false
		}
	}
	for b, met := range one.met {
		if met && !other.met[b] {
			return false
		}
	}
	return true
}

// wantTold: the answer about a function is what the chapter's words say.
func wantTold(t *testing.T, p api.Program, fn int) (teller, holding) {
	t.Helper()
	w := tellerOf(p, fn)
	facts, met, e := fold.Facts(p, fn)
	h := holding{facts, met}
	if want := w.least(); e != api.OK || !same(h, want) {
		t.Fatalf("Facts(%v, %d): %s %v, want %s", p, fn, short(h), e, short(want))
	}
	return w, h
}

func wantRefused(t *testing.T, p api.Program, fn int, want api.Errno) {
	t.Helper()
	if facts, met, e := fold.Facts(p, fn); e != want || len(facts) != 0 || len(met) != 0 {
		t.Errorf("Facts(%v, %d): %v %v %v, want %v", p, fn, facts, met, e, want)
	}
}

// sign of a fact: . (never), * (many), or what the value is known to be.
func sign(fact api.Fact) string {
	switch {
	case fact == (api.Fact{}):
		return "."
	case fact == (api.Fact{Kind: api.Many}):
		return "*"
	case fact.Kind == api.Known:
		return fmt.Sprint(fact.Value)
	}
	return fmt.Sprint(fact)
}

// short form: the signs of all facts, and the blocks that are met.
func short(h holding) string {
	var l []string
	for _, fact := range h.facts {
		l = append(l, sign(fact))
	}
	l = append(l, "|")
	for b, met := range h.met {
		if met {
			l = append(l, fmt.Sprint(b))
		}
	}
	return strings.Join(l, " ")
}

func wantShort(t *testing.T, text string, fn int, want string) {
	t.Helper()
	facts, met, e := fold.Facts(told.Text(t, text), fn)
	if got := short(holding{facts, met}); e != api.OK || got != want {
		t.Errorf("Facts(%q, %d): %s %v, want %s", text, fn, got, e, want)
	}
}

// settled: a right program that sets a number in most places where a Call, a Host or a Load would make one, so that more is known of it.
func settled(d *drawn.Die, i int) api.Program {
	p := drawn.Any(d, i)
	for _, f := range p.Funcs {
		for pc, x := range f.Code {
			if (x.Op == api.Call || x.Op == api.Host || x.Op == api.Load) && d.Below(8) > 0 {
				f.Code[pc] = api.Instr{Op: api.Set, Dst: x.Dst, Imm: d.Below(4) - 1}
			}
		}
	}
	return p
}
