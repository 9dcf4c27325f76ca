package told

import "testing"

// TestFollow: cells in which values stay as long as they are read are told from those in which one takes another's room.
func TestFollow(t *testing.T) {
	const dead = "func 1 2\nset r1 5\nret r0\n"
	const turning = "func 2 2\nadd r0 r0 r1\nsub r1 r1 r0\nif r0 0\nret r1\n"
	const deep = "func 1 2\nif r0 2\nret r0\nset r1 -1\nadd r1 r0 r1\ncall r1 0 r1 r1\nadd r0 r0 r1\nret r0\n"
	for _, c := range []struct {
		text       string
		args       []int
		cells      []int
		held, back int
		want       counter
	}{
		{Counted, []int{10}, []int{0, 1, 2, 3, 4, 5, 6}, 1 + 2 + 11*3 + 1 + 10*9, 10, 0},
		{Counted, []int{10}, []int{0, 1, 2, 0, 1, 1, 0}, 1 + 2 + 11*3 + 1 + 10*9, 10, 0},
		{Counted, []int{10}, []int{0, 0, 2, 0, 1, 1, 0}, 2, 0, 1},
		{Counted, []int{10}, []int{0, 1, 1, 0, 1, 1, 0}, 5, 0, 1},
		{dead, []int{7}, []int{0, 1}, 2, 0, 0},
		{dead, []int{7}, []int{3, 3}, 2, 0, 1},
		// What comes to a phi lies in the cell of another phi of its block; both parameters only come to phis.
		{turning, []int{3, 1}, []int{0, 0, 1, 2, 3, 1}, 101 * 2, 33, 0},
		{turning, []int{3, 1}, []int{0, 0, 1, 1, 3, 1}, 1, 0, 1},
		// Each frame has cells of its own.
		{deep, []int{3}, []int{0, 1, 1, 1, 0}, 3*9 + 2, 0, 0},
		{deep, []int{3}, []int{0, 1, 1, 0, 0}, 3*6 + 2 + 1, 0, 1},
	} {
		p := Text(t, c.text)
		s := Begin(t, p, c.args, nil, 100)
		var found counter
		if held, back := Follow(&found, p, s, [][]int{c.cells}); held != c.held || back != c.back || found != c.want {
			t.Errorf("%q in %v: %d held, %d times back, %d faults, want %d, %d, %d", c.text, c.cells, held, back, found, c.held, c.back, c.want)
		}
	}
}
