package profile_test

import (
	"fmt"
	"slices"
	"testing"

	"tierline/api"
	"tierline/drawn"
	"tierline/profile"
	"tierline/told"
)

// TestGiven: what is handed in stays as it is, its spare room too, and shares nothing with what comes out.
func TestGiven(t *testing.T) {
	d := drawn.Die(64)
	for range 100 {
		p, asItWas := drawn.Roomy(drawn.Right(&d))
		args := append(drawn.Args(&d, p), 77)
		answers := []int{3, 0, 1, 77}
		before := fmt.Sprint(p, args, answers)
		l, e := profile.Counts(p, args[:len(args)-1], answers[:3], 200)
		want := fmt.Sprint(l)
		_, _, f := profile.Hot(p, args[:len(args)-1], answers[:3], 200)
		if e != api.OK || f != api.OK {
			t.Fatalf("%s is refused: %v %v", before, e, f)
		}
		if after := fmt.Sprint(p, args, answers); after != before || !asItWas() {
			t.Fatalf("%s was changed to %s", before, after)
		}
		for i := range p.Funcs {
			clear(p.Funcs[i].Code)
		}
		clear(p.Funcs)
		clear(args)
		clear(answers)
		if got := fmt.Sprint(l); got != want {
			t.Fatalf("%s hangs on what was handed in: %s", want, got)
		}
	}
}

func fill(l []int, n int) {
	for i := range l {
		l[i] = n
	}
}

// TestApart: no two lists of an answer share memory, spare room neither, and none is one of another answer.
func TestApart(t *testing.T) {
	p := told.Text(t, twice+counted+endless)
	want, _ := profile.Counts(p, []int{3}, nil, 99)
	l, _ := profile.Counts(p, []int{3}, nil, 99)
	for fn, counts := range l {
		fill(counts[:cap(counts)], 70+fn)
	}
	for fn, counts := range l {
		if slices.ContainsFunc(counts[:cap(counts)], func(n int) bool { return n != 70+fn }) {
			t.Errorf("function %d shares memory with a later one: %v", fn, counts)
		}
	}
	clear(l[:cap(l)])
	if again, _ := profile.Counts(p, []int{3}, nil, 99); !same(again, want) {
		t.Errorf("asked again: %v, want %v", again, want)
	}
}
