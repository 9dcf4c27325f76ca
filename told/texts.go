package told

import (
	"strconv"
	"strings"

	"tierline/api"
)

// Texts of programs that the tests of several layers hold their layer against.
const (
	// Counted adds up the numbers from its argument down; each place is reached.
	Counted = "func 1 3\nset r1 0\nset r2 -1\nif r0 4\nret r1\nadd r1 r1 r0\nadd r0 r0 r2\njump 2\n"
	// Diamond has two ways that part and come together.
	Diamond = "func 1 2\nif r0 3\nset r1 1\njump 4\nset r1 2\nret r1\n"
	// Nested has a loop in a loop, whose heads are at the places 1 and 2; neither changes anything.
	Nested = "func 2 2\nset r1 1\nset r0 1\nif r1 2\nif r0 1\nret r0\n"
	// Crossed has a round of two blocks that may be entered at both, and changes nothing.
	Crossed = "func 1 1\nif r0 2\nif r0 2\nif r0 1\nret r0\n"
	// Still has one block, and another that is not reached.
	Still = "func 2 2\nadd r0 r0 r1\nstore r0 r1\nret r0\njump 3\n"
)

// Woven: a function with all registers, which are live and never set in as many blocks as there is room for, whose Ifs lead where is asked for.
func Woven(to func(i, ifs int) int) string {
	line := func(word string, one, other int, mark string) string {
		return word + " r" + strconv.Itoa(one) + " " + mark + strconv.Itoa(other) + "\n"
	}
	var s strings.Builder
	s.WriteString("func 2 12\n")
	for r := 2; r < api.MaxRegs; r++ {
		s.WriteString(line("set", r, r, ""))
	}
	const ifs = api.MaxCode - 10 - 7
	for i := range ifs {
		s.WriteString(line("if", i%api.MaxRegs, 10+to(i, ifs), ""))
	}
	for r := 0; r < api.MaxRegs; r += 2 {
		s.WriteString(line("store", r, r+1, "r"))
	}
	return s.String() + "ret r0\n"
}
