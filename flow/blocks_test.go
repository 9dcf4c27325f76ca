package flow_test

import (
	"fmt"
	"testing"

	"tierline/api"
	"tierline/drawn"
	"tierline/flow"
	"tierline/told"
)

func wantBlocks(t *testing.T, text string, fn int, want string) {
	t.Helper()
	if l, e := flow.Blocks(told.Text(t, text), fn); e != api.OK || fmt.Sprint(l) != want {
		t.Errorf("Blocks(%q, %d): %v %v, want %s", text, fn, l, e, want)
	}
}

// TestEnds (P7.1): which ops end a block, and which do not.
func TestEnds(t *testing.T) {
	const one, two, last = "[{0 2 [] [-1]}]", "[{0 1 [1] [-1]} {1 2 [] [0]}]", "[{0 1 [] [-1]}]"
	for _, c := range []struct{ line, want string }{
		{"set r0 1", one},
		{"add r0 r0 r1", one},
		{"sub r0 r0 r1", one},
		{"mul r0 r0 r1", one},
		{"div r0 r0 r1", one},
		{"and r0 r0 r1", one},
		{"or r0 r0 r1", one},
		{"xor r0 r0 r1", one},
		{"shl r0 r0 r1", one},
		{"sar r0 r0 r1", one},
		{"lt r0 r0 r1", one},
		{"eq r0 r0 r1", one},
		{"load r0 r0", one},
		{"store r0 r1", one},
		{"jump 1", two},
		{"if r0 1", two},
		{"call r0 0 r0 r1", two},
		{"host r0 r0", two},
		{"ret r0", last},
	} {
		wantBlocks(t, "func 2 2\n"+c.line+"\nret r0\n", 0, c.want)
	}
}

// TestBlocks (P7.1, P7.2): where blocks begin and end, where they lead, and who leads to them.
func TestBlocks(t *testing.T) {
	for _, c := range []struct {
		text string
		want string
	}{
		{counted, "[{0 2 [1] [-1]} {2 3 [2 3] [0 3]} {3 4 [] [1]} {4 7 [1] [1]}]"},
		{diamond, "[{0 1 [1 2] [-1]} {1 3 [3] [0]} {3 4 [3] [0]} {4 5 [] [1 2]}]"},
		{nested, "[{0 1 [1] [-1]} {1 2 [2] [0 3]} {2 3 [2 3] [1 2]} {3 4 [1 4] [2]} {4 5 [] [3]}]"},
		{crossed, "[{0 1 [1 2] [-1]} {1 2 [2] [0 2]} {2 3 [1 3] [0 1]} {3 4 [] [2]}]"},
		{still, "[{0 3 [] [-1]}]"},
		{"func 1 1\nret r0\n", "[{0 1 [] [-1]}]"},
		// The first block may be led to, by itself and by others.
		{"func 0 1\njump 0\n", "[{0 1 [0] [-1 0]}]"},
		{"func 1 1\nif r0 0\njump 0\n", "[{0 1 [0 1] [-1 0 1]} {1 2 [0] [0]}]"},
		{"func 1 1\nset r0 1\njump 0\n", "[{0 2 [0] [-1 0]}]"},
		// Both ways of an If lead to one block: it is told once.
		{"func 1 1\nif r0 1\nret r0\n", "[{0 1 [1] [-1]} {1 2 [] [0]}]"},
		// Behind a Jump or a Ret none begins, unless there is a way to it.
		{"func 1 1\njump 2\nset r0 0\nret r0\n", "[{0 1 [1] [-1]} {2 3 [] [0]}]"},
		{"func 1 1\nret r0\nset r0 0\nret r0\n", "[{0 1 [] [-1]}]"},
		{"func 1 1\nif r0 2\nret r0\nset r0 0\nret r0\n", "[{0 1 [1 2] [-1]} {1 2 [] [0]} {2 4 [] [0]}]"},
		// What is not reached ends none, and none begins where it leads.
		{"func 1 1\njump 3\nhost r0 r0\nif r0 4\nset r0 1\nset r0 2\nret r0\n", "[{0 1 [1] [-1]} {3 6 [] [0]}]"},
		{"func 1 1\nset r0 1\nset r0 2\nret r0\njump 1\n", "[{0 3 [] [-1]}]"},
		// A target amid others ends the block ahead of it.
		{"func 1 1\nset r0 0\nset r0 1\nif r0 1\nret r0\n", "[{0 1 [1] [-1]} {1 3 [1 2] [0 1]} {3 4 [] [1]}]"},
		// Places behind one another in the list, ways the other way round: the target of an If is told first, where it is lower.
		{"func 1 1\njump 3\nret r0\nset r0 0\nif r0 1\njump 1\n", "[{0 1 [2] [-1]} {1 2 [] [2 3]} {3 4 [1 3] [0]} {4 5 [1] [2]}]"},
		// Behind a Call or a Host one begins, whatever the other function does, and whatever the Imm of a Set or a Call is.
		{"func 1 1\ncall r0 1 r0 r0\nset r0 3\nhost r0 r0\nset r0 0\nret r0\nfunc 1 1\njump 0\n", "[{0 1 [1] [-1]} {1 3 [2] [0]} {3 5 [] [1]}]"},
		{"func 1 1\nset r0 1\nset r0 2\ncall r0 1 r0 r0\nret r0\nfunc 1 1\nret r0\n", "[{0 3 [1] [-1]} {3 4 [] [0]}]"},
	} {
		wantBlocks(t, c.text, 0, c.want)
	}
}

// TestBlocksOfEach (P7.2): the function that is asked for, whether it is called or not.
func TestBlocksOfEach(t *testing.T) {
	text := counted + diamond + "func 0 1\njump 0\n" + still
	wantBlocks(t, text, 0, "[{0 2 [1] [-1]} {2 3 [2 3] [0 3]} {3 4 [] [1]} {4 7 [1] [1]}]")
	wantBlocks(t, text, 1, "[{0 1 [1 2] [-1]} {1 3 [3] [0]} {3 4 [3] [0]} {4 5 [] [1 2]}]")
	wantBlocks(t, text, 2, "[{0 1 [0] [-1 0]}]")
	wantBlocks(t, text, 3, "[{0 3 [] [-1]}]")
}

// TestBlocksLimits (P7.2): one block with all instructions, and one for each.
func TestBlocksLimits(t *testing.T) {
	wantBlocks(t, lines("func 1 12\n", "set r11 0\n", "ret r0\n"), 0, "[{0 40 [] [-1]}]")
	wantBlocks(t, lines("func 1 1\n", "set r0 0\n", "jump 39\n"), 0, "[{0 39 [1] [-1]} {39 40 [1] [0 1]}]")
	wantBlocks(t, lines("func 1 1\njump 39\n", "set r0 0\n", "ret r0\n"), 0, "[{0 1 [1] [-1]} {39 40 [] [0]}]")
	ends, p := "{0 1 [1] [-1]}", ""
	for b := 1; b < api.MaxCode-1; b++ {
		ends += fmt.Sprintf(" {%d %d [%d] [%d]}", b, b+1, b+1, b-1)
		p += fmt.Sprintf(" %d", b)
	}
	wantBlocks(t, lines("func 1 1\n", "host r0 r0\n", "ret r0\n"), 0, "["+ends+" {39 40 [] [38]}]")
	// Each leads to the first one, or to the last one.
	back, fore := "{0 1 [0 1] [-1 0"+p+"]}", "{0 1 [1 39] [-1]}"
	for b := 1; b < api.MaxCode-2; b++ {
		back += fmt.Sprintf(" {%d %d [0 %d] [%d]}", b, b+1, b+1, b-1)
		fore += fmt.Sprintf(" {%d %d [%d 39] [%d]}", b, b+1, b+1, b-1)
	}
	wantBlocks(t, ladder(func(int) int { return 0 }), 0, "["+back+" {38 39 [0 39] [37]} {39 40 [] [38]}]")
	wantBlocks(t, ladder(func(int) int { return api.MaxCode - 1 }), 0, "["+fore+" {38 39 [39] [37]} {39 40 [] [0"+p+"]}]")
}

// TestCover (P7.2): each reached place is of just one block, each other one of none, and each block is led to.
func TestCover(t *testing.T) {
	d := drawn.Die(71)
	for range 300 {
		p := drawn.Tangled(&d)
		for fn, f := range p.Funcs {
			l, _ := flow.Blocks(p, fn)
			times := make([]int, len(f.Code))
			for b, block := range l {
				if len(block.Prev) == 0 || b > 0 && block.From < l[b-1].To {
					t.Errorf("Blocks(%v, %d): %v: block %d is not led to, or begins too early", p, fn, l, b)
				}
				for pc := block.From; pc < block.To; pc++ {
					times[pc]++
				}
			}
			for pc, reached := range told.Reached(f)[:len(f.Code)] {
				if reached != (times[pc] == 1) || times[pc] > 1 {
					t.Errorf("Blocks(%v, %d): %v: place %d is %d times in blocks", p, fn, l, pc, times[pc])
				}
			}
		}
	}
}
