package fold

import (
	"tierline/api"
	"tierline/step"
)

var (
	never = api.Fact{Kind: api.Never}
	many  = api.Fact{Kind: api.Many}
)

func known(value int) api.Fact { return api.Fact{Kind: api.Known, Value: value} }

// either: what is known of a value that is one of two; one that is never made does not count.
func either(one, other api.Fact) api.Fact {
	switch {
	case one == never, one == other:
		return other
	case other == never:
		return one
	}
	return many
}

// made: what is known of what an instruction makes of A and B; one that it does not read must be known.
func made(x api.Ins, a, b api.Fact) api.Fact {
	if a == never || b == never || x.Op == api.Div && b == known(0) {
		return never
	}
	if x.Op > api.Eq || a == many || b == many {
		return many
	}
	value, _ := step.Make(x.Op, a.Value, b.Value, x.Imm)
	return known(value)
}
