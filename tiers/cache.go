package tiers

import (
	"slices"

	"tierline/api"
	"tierline/emit"
	"tierline/flow"
)

// compiled function: its words, and whether a block of it begins at a place.
type compiled struct {
	words  []int
	begins func(pc int) bool
}

// compile a function of a right program, of which nothing is refused.
func compile(p api.Program, fn int) compiled {
	words, _ := emit.Function(p, fn)
	blocks, _ := flow.Blocks(p, fn)
	return compiled{words, func(pc int) bool {
		return slices.ContainsFunc(blocks, func(b api.Block) bool { return b.From == pc })
	}}
}

// cache of compiled functions, and their order, the oldest one first, which the map does not tell.
type cache struct {
	functions map[int]compiled
	order     []int
}

// keep a function compiled. One that is kept stays as old as it is.
func (c *cache) keep(p api.Program, fn int) {
	if _, ok := c.functions[fn]; ok {
		return
	}
	c.functions[fn] = compile(p, fn)
	c.order = append(c.order, fn)
	if len(c.order) > api.Cached {
		c.drop()
	}
}

// drop the oldest function, if there is one.
func (c *cache) drop() {
	if len(c.order) > 0 {
		delete(c.functions, c.order[0])
		c.order = c.order[1:]
	}
}

// clear: drops all.
func (c *cache) clear() {
	for len(c.order) > 0 {
		c.drop()
	}
}
