package tiers_test

import (
	"fmt"
	"slices"
	"strings"
	"testing"

	"tierline/api"
	"tierline/emit"
	"tierline/step"
	"tierline/tiers"
	"tierline/told"
)

const (
	// turns: the function 0 calls 1, 2 and 1 again. Its run has 11 steps.
	turns = "func 1 2\nadd r1 r0 r0\ncall r1 1 r1 r1\ncall r1 2 r1 r1\ncall r0 1 r1 r1\nret r0\nfunc 1 1\nadd r0 r0 r0\nret r0\nfunc 1 1\nadd r0 r0 r0\nret r0\n"
	// endless calls itself.
	endless = "func 1 1\ncall r0 0 r0 r0\nret r0\n"
	// factorial by calls of itself.
	factorial = "func 1 3\nif r0 3\nset r0 1\nret r0\nset r1 1\nsub r1 r0 r1\ncall r1 0 r1 r1\nmul r0 r0 r1\nret r0\n"
	// asking asks the host till it answers 2.
	asking = "func 1 2\nhost r0 r0\nset r1 2\nsub r1 r0 r1\nif r1 0\nret r0\n"
	// divided: by 0, if the argument is.
	divided = "func 1 1\ndiv r0 r0 r0\nret r0\n"
	// stored at the argument's word.
	stored = "func 1 1\nstore r0 r0\nadd r0 r0 r0\nret r0\n"
)

// letters of picks: by their kinds.
const letters = "sncdx"

// picked: the picks of a text, a letter each; blanks say nothing.
func picked(s string) []int {
	var l []int
	for _, c := range strings.ReplaceAll(s, " ", "") {
		l = append(l, strings.IndexRune(letters, c))
	}
	return l
}

// same: a list without elements may be nil or not, which a text does not tell.
func same(a, b any) bool { return fmt.Sprint(a) == fmt.Sprint(b) }

// teller of a run by the words of P14.2, in which machine code goes as far as Far tells; and how often each thing came.
type teller struct {
	api.Outcome
	p    api.Program
	seen map[string]int
}

func (l *teller) saw(what string) { l.seen[what]++ }

func (l *teller) step() { l.State, _ = step.Next(l.p, l.State) }

func (l *teller) compile(fn int) {
	if slices.Contains(l.Kept, fn) {
		l.saw("kept already")
		return
	}
	l.saw("compiled")
	if l.Kept = append(l.Kept, fn); len(l.Kept) == 3 {
		l.saw("too many")
		l.Kept = l.Kept[1:]
	}
}

func (l *teller) native(at api.Frame) {
	switch {
	case !slices.Contains(l.Kept, at.Fn):
		l.saw("not kept")
	case !told.Begins(l.p.Funcs[at.Fn])[at.Pc]:
		l.saw("no block")
	default:
		left, n, _ := emit.Far(l.p, l.State)
		if n == 0 {
			l.saw("entered for nothing")
		}
		if n > 0 {
			l.saw("entered")
		}
		l.State = left
		l.Natives++
		l.Walked += n
	}
}

func (l *teller) pick(kind int) {
	at := l.State.Frames[len(l.State.Frames)-1]
	switch kind {
	case 0:
		l.step()
	case 1:
		l.native(at)
	case 2:
		l.compile(at.Fn)
	case 3:
		l.saw(fmt.Sprint("dropped with ", len(l.Kept)))
		l.Kept = l.Kept[min(1, len(l.Kept)):]
	case 4:
		l.saw(fmt.Sprint("cleared with ", len(l.Kept)))
		l.Kept = nil
	}
}

// toldRun: what comes of a run that begins, by the words of P14.3.
func toldRun(t *testing.T, p api.Program, args, answers []int, fuel int, picks []int) teller {
	t.Helper()
	l := teller{p: p, seen: map[string]int{}}
	l.State = told.Begin(t, p, args, answers, fuel)
	for _, kind := range picks {
		if l.State.Status == api.Running {
			l.pick(kind)
		} else {
			l.saw("picks behind the end")
		}
	}
	for l.State.Status == api.Running {
		l.step()
	}
	l.State = told.Tidied(p, l.State, 0)
	return l
}

// wantRun: a run comes to what is told of it, and to the state to which byte code comes. What came of it, and how often each thing came.
func wantRun(t *testing.T, p api.Program, args, answers []int, fuel int, picks []int) (api.Outcome, map[string]int) {
	t.Helper()
	o, e := tiers.Run(p, args, answers, fuel, picks)
	want := toldRun(t, p, args, answers, fuel, picks)
	if e != api.OK || !same(o, want.Outcome) {
		t.Fatalf("Run(%v, %v, %v, %d, %v):\n%v %v, want\n%v", p, args, answers, fuel, picks, o, e, want.Outcome)
	}
	s, _ := step.Run(p, args, answers, fuel)
	if s = told.Tidied(p, s, 0); !same(o.State, s) {
		t.Fatalf("Run(%v, %v, %v, %d, %v):\n%v, but byte code comes to\n%v", p, args, answers, fuel, picks, o.State, s)
	}
	return o, want.seen
}

// wantRefused: a run is refused, and nothing is answered.
func wantRefused(t *testing.T, what string, p api.Program, args, answers []int, fuel int, picks []int, want api.Errno) {
	t.Helper()
	if o, e := tiers.Run(p, args, answers, fuel, picks); e != want || !same(o, api.Outcome{}) {
		t.Errorf("Run, %s: %v %v, want %v", what, o, e, want)
	}
}
