package drawn_test

import (
	"reflect"
	"testing"

	"tierline/api"
	"tierline/code"
	"tierline/drawn"
)

// TestProgram: what is drawn is well shaped, has each op, and is the same each time.
func TestProgram(t *testing.T) {
	var seen [api.Ret + 1]int
	d, again := drawn.Die(1), drawn.Die(1)
	for range 300 {
		p := drawn.Program(&d)
		if e := code.Check(p); e != api.OK {
			t.Fatalf("%v is not well shaped: %v", p, e)
		}
		if q := drawn.Program(&again); !reflect.DeepEqual(p, q) {
			t.Fatalf("drawn anew, %v is %v", p, q)
		}
		for _, f := range p.Funcs {
			for _, x := range f.Code {
				seen[x.Op]++
			}
		}
	}
	for op := api.Set; op <= api.Ret; op++ {
		if seen[op] < 100 {
			t.Errorf("op %d is drawn only %d times", op, seen[op])
		}
	}
}

// TestGreatest: it is well shaped.
func TestGreatest(t *testing.T) {
	if e := code.Check(drawn.Greatest()); e != api.OK {
		t.Errorf("it is not well shaped: %v", e)
	}
}

// TestBelow: each number below the bound comes, and no other.
func TestBelow(t *testing.T) {
	var seen [7]int
	d := drawn.Die(2)
	for range 700 {
		seen[d.Below(7)]++
	}
	for n, times := range seen {
		if times < 50 {
			t.Errorf("%d comes only %d times", n, times)
		}
	}
}
