package told

import (
	"testing"

	"tierline/api"
	"tierline/code"
	"tierline/drawn"
	"tierline/proof"
)

// TestRefused: what is asked for is refused by each error, and a function that is none also of a program of as many functions as may be.
func TestRefused(t *testing.T) {
	seen := map[api.Errno]int{}
	most := 0
	Refused(t, func(p api.Program, fn int, want api.Errno) {
		e := proof.Check(p)
		if e == api.OK {
			most = max(most, len(p.Funcs))
			if fn >= 0 && fn < len(p.Funcs) {
				t.Errorf("%v has a function %d", p, fn)
			}
			e = api.ErrRange
		}
		if e != want {
			t.Errorf("%v, function %d: %v, want %v", p, fn, want, e)
		}
		seen[want]++
	})
	for _, e := range []api.Errno{api.ErrSize, api.ErrRange, api.ErrKind, api.ErrUnset, api.ErrEnd} {
		if seen[e] == 0 {
			t.Errorf("nothing is %v", e)
		}
	}
	if most != api.MaxFuncs {
		t.Errorf("at most %d functions", most)
	}
}

// TestDecoded: bytes of right programs, of such as are not, and of none.
func TestDecoded(t *testing.T) {
	for _, c := range []struct {
		p              api.Program
		refused, right int
	}{
		{Text(t, Counted+Diamond+Still), 0, 3},
		{drawn.Wrong()[3], 1, 0},
		{drawn.Wrong()[4], 1, 0},
		{api.Program{}, 0, 0},
	} {
		refused, right := 0, 0
		l, _ := code.Encode(c.p)
		Decoded(l, func(p api.Program, fn int, want api.Errno) {
			if refused++; fn != 0 || want != proof.Check(c.p) {
				t.Errorf("%v, function %d is asked for: %v", p, fn, want)
			}
		}, func(p api.Program, fn int) {
			if right++; fn != right-1 {
				t.Errorf("%v, function %d is asked for", p, fn)
			}
		})
		if refused != c.refused || right != c.right {
			t.Errorf("%v: %d and %d are asked for, want %d and %d", c.p, refused, right, c.refused, c.right)
		}
	}
}
