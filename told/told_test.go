package told

import "testing"

// TestApart: lists that share an element, one of them in its spare room, are told from those that do not.
func TestApart(t *testing.T) {
	self := func(x *int) *int { return x }
	l := make([]int, 6)
	for _, c := range []struct {
		lists [][]int
		want  bool
	}{
		{nil, true},
		{[][]int{l}, true},
		{[][]int{nil, l, {}, {1, 2}}, true},
		{[][]int{l[:2:3], l[3:4:5], l[5:]}, true},
		{[][]int{l, l}, false},
		{[][]int{l[:2:4], l[3:]}, false},
		{[][]int{l[5:], {1}, l[:0]}, false},
	} {
		if got := Apart(c.lists, self); got != c.want {
			t.Errorf("Apart(%v): %v, want %v", c.lists, got, c.want)
		}
	}
}
