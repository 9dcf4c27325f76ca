package fold

import (
	"slices"

	"tierline/api"
)

const (
	// none: what ssa tells where an instruction makes or reads no value.
	none = -1
	// beginning: what flow tells of a function's beginning, which leads to the first block.
	beginning = -1
)

// way from one block to another.
type way struct{ from, to int }

// knowledge of a function's values, and the ways that are gone, from the function's beginning on.
type knowledge struct {
	parts  []api.Part
	blocks []api.Block
	facts  []api.Fact
	gone   map[way]struct{}
}

// learn the least that may be: no value is made and no way is gone, until something says so. Facts only rise and ways only come by what rose ahead of them, so that what must be is come to, and nothing else.
func learn(s api.Ssa, blocks []api.Block) *knowledge {
	k := &knowledge{s.Parts, blocks, make([]api.Fact, s.Values), map[way]struct{}{{beginning, 0}: {}}}
	for i := range s.Params {
		k.facts[i] = many
	}
	for k.round() {
	}
	return k
}

// round over all met blocks: was something learnt?
func (k *knowledge) round() bool {
	ways, rose := len(k.gone), false
	for b, part := range k.parts {
		if !k.met(b) {
			continue
		}
		for _, phi := range part.Phis {
			rose = k.rise(phi.Id, k.comes(b, phi)) || rose
		}
		for _, x := range part.Ins {
			if x.Id != none {
				rose = k.rise(x.Id, made(x, k.read(x.A), k.read(x.B))) || rose
			}
		}
		for _, to := range k.goes(b) {
			k.gone[way{b, to}] = struct{}{}
		}
	}
	return rose || len(k.gone) > ways
}

// rise: sets what is known of a value; is that anything else than it was?
func (k *knowledge) rise(value int, fact api.Fact) bool {
	rose := k.facts[value] != fact
	k.facts[value] = fact
	return rose
}

func (k *knowledge) isGone(from, to int) bool {
	_, ok := k.gone[way{from, to}]
	return ok
}

// met: is a way to the block gone?
func (k *knowledge) met(block int) bool {
	return slices.ContainsFunc(k.blocks[block].Prev, func(from int) bool { return k.isGone(from, block) })
}

// comes: what is known of a phi, by the ways to its block that are gone.
func (k *knowledge) comes(block int, phi api.Phi) api.Fact {
	fact := never
	for i, from := range k.blocks[block].Prev {
		if k.isGone(from, block) {
			fact = either(fact, k.facts[phi.Args[i]])
		}
	}
	return fact
}

// read: what is known of a value that an instruction reads; where it reads none, nothing is left open.
func (k *knowledge) read(value int) api.Fact {
	if value == none {
		return known(0)
	}
	return k.facts[value]
}

// goes: the blocks to which a met one goes.
func (k *knowledge) goes(block int) []int {
	ins := k.parts[block].Ins
	last := ins[len(ins)-1]
	if last.Op != api.If {
		return k.blocks[block].Next
	}
	switch fact := k.facts[last.A]; {
	case fact == never:
		return nil
	case fact == many:
		return k.blocks[block].Next
	case fact == known(0):
		return []int{k.begun(k.blocks[block].To)}
	}
	return []int{k.begun(last.Imm)}
}

// begun: the block that begins at a place, as one does behind each If.
func (k *knowledge) begun(place int) int {
	return slices.IndexFunc(k.blocks, func(b api.Block) bool { return b.From == place })
}
