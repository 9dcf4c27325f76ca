package told

// Texts of programs that the tests of several layers hold their layer against.
const (
	// Counted adds up the numbers from its argument down; each place is reached.
	Counted = "func 1 3\nset r1 0\nset r2 -1\nif r0 4\nret r1\nadd r1 r1 r0\nadd r0 r0 r2\njump 2\n"
	// Diamond has two ways that part and come together.
	Diamond = "func 1 2\nif r0 3\nset r1 1\njump 4\nset r1 2\nret r1\n"
	// Nested has a loop in a loop, whose heads are at the places 1 and 2; neither changes anything.
	Nested = "func 2 2\nset r1 1\nset r0 1\nif r1 2\nif r0 1\nret r0\n"
	// Crossed has a round of two blocks that may be entered at both, and changes nothing.
	Crossed = "func 1 1\nif r0 2\nif r0 2\nif r0 1\nret r0\n"
	// Still has one block, and another that is not reached.
	Still = "func 2 2\nadd r0 r0 r1\nstore r0 r1\nret r0\njump 3\n"
)
