package ssa_test

import (
	"testing"

	"tierline/api"
	"tierline/drawn"
	"tierline/flow"
	"tierline/ssa"
	"tierline/step"
	"tierline/told"
)

// origin of a value: the block that makes it, and how many of that block's instructions are done by then, and that one; a phi is there at the block's beginning, a parameter at the function's.
type origin struct{ block, ins int }

// origins of all values, each of which must be made just once.
func origins(t *testing.T, s api.Ssa) []origin {
	t.Helper()
	l := make([]origin, s.Params, s.Values)
	for b, part := range s.Parts {
		for _, phi := range part.Phis {
			if phi.Id != len(l) {
				t.Fatalf("%s: the phi %v is not counted in its turn", short(s), phi)
			}
			l = append(l, origin{b, 0})
		}
		for i, x := range part.Ins {
			if x.Id == -1 {
				continue
			}
			if x.Id != len(l) {
				t.Fatalf("%s: %v is not counted in its turn", short(s), x)
			}
			l = append(l, origin{b, i + 1})
		}
	}
	if len(l) != s.Values {
		t.Fatalf("%s: %d values are made", short(s), len(l))
	}
	return l
}

// stands: does a block stand on each way to another, itself included?
func stands(above []int, one, other int) bool {
	for other > -1 && other != one {
		other = above[other]
	}
	return other == one
}

// TestBehind (what comes of P8): a value is made at one place, and whatever reads it stands behind that, on each way; what comes to a phi is there behind the block from which it comes.
func TestBehind(t *testing.T) {
	d := drawn.Die(86)
	for i := range 500 {
		p := drawn.Any(&d, i)
		for fn := range p.Funcs {
			s, _ := ssa.Build(p, fn)
			blocks, _ := flow.Blocks(p, fn)
			above, _ := flow.Above(p, fn)
			from := origins(t, s)
			there := func(value, block, ins int) {
				if o := from[value]; value >= s.Params && (o.block == block && o.ins > ins || !stands(above, o.block, block)) {
					t.Fatalf("%v, function %d: %s: %d is not there in the block %d behind %d instructions", p, fn, short(s), value, block, ins)
				}
			}
			for b, part := range s.Parts {
				for _, phi := range part.Phis {
					for i, value := range phi.Args {
						if prev := blocks[b].Prev[i]; prev >= 0 {
							there(value, prev, len(s.Parts[prev].Ins))
						} else if value != phi.Reg {
							t.Fatalf("%v, function %d: %s: from the beginning comes %d for r%d", p, fn, short(s), value, phi.Reg)
						}
					}
				}
				for i, x := range part.Ins {
					for _, value := range []int{x.A, x.B} {
						if value != -1 {
							there(value, b, i)
						}
					}
				}
				for _, value := range part.In {
					if value != -1 {
						there(value, b, 0)
					}
				}
			}
		}
	}
}

// TestRuns (P8.1 to P8.3): in runs, each live register holds what its value is, made by instructions and phis as they are come to.
func TestRuns(t *testing.T) {
	d := drawn.Die(87)
	held, back := 0, 0
	for i := range 500 {
		p := drawn.Any(&d, i)
		var cells [][]int
		for fn := range p.Funcs {
			s, _ := ssa.Build(p, fn)
			cells = append(cells, eachItsOwn(s.Values))
		}
		s, _ := step.Begin(p, drawn.Args(&d, p), []int{3, 1, -7}, 200)
		h, b := told.Follow(t, p, s, cells)
		held, back = held+h, back+b
	}
	if min(held, back) < 2000 {
		t.Errorf("only %d registers were held against values, only %d times a place was come to again", held, back)
	}
}

// eachItsOwn: a cell for each of so many values.
func eachItsOwn(values int) []int {
	l := make([]int, values)
	for value := range l {
		l[value] = value
	}
	return l
}
